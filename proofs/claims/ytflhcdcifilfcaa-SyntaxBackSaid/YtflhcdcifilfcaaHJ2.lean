/-
  Merged for a claim: GA, GB, TKA.
-/
import Derived.Test.YtflhcdcifilfcaaHJ0
import Derived.Test.YtflhcdcifilfcaaHJ1
import Derived.Deep.Slices
import Derived.Deep.Fields
import Derived.Lib.ParseIntB
namespace Go.Proofs.Ytflhcdcifilfcaa
open Go.ChangeShapes Go.WideShapes Go.ChangeAt Go.RowKit Go.Deep

def HasT (w:World) (k:Nat) (e:TypeId):Prop:=∃ cs s,w.heap[k]? = some (.cells cs e s)
theorem HasT.one {w:World} {k:Nat} {e e2:TypeId} (h:HasT w k e) (h2:HasT w k e2):e=e2:=by
 obtain ⟨cs,s,h⟩:=h;obtain ⟨cs2,s2,h2⟩:=h2;rw [h] at h2;injection h2 with h2;injection h2
theorem HasT.lt {w:World} {k:Nat} {e:TypeId} (h:HasT w k e):k < w.heap.size:=by
 obtain ⟨cs,s,h⟩:=h;exact (Array.getElem?_eq_some_iff.1 h).1
theorem HasT.same {w w':World} {k:Nat} {e:TypeId} (h:HasT w k e) (hk:w'.heap[k]? = w.heap[k]?):HasT w' k e:=by
 obtain ⟨cs,s,h⟩:=h;exact ⟨cs,s,hk.trans h⟩
theorem HasT.new (w:World) (cs:Array Value) (e:TypeId):HasT (w.alloc (.cells cs e)) w.heap.size e:=⟨_,_,heap_alloc_new w _⟩
def ButT (T:TypeId) (w w':World):Prop:=∀ k e,HasT w k e→e≠T→w'.heap[k]? = w.heap[k]?
theorem ButT.trans {T:TypeId} {w w1 w2:World} (h:ButT T w w1) (h2:ButT T w1 w2):ButT T w w2:=fun k e hk he=>(h2 k e (hk.same (h k e hk he)) he).trans (h k e hk he)
theorem ButT.grown {T:TypeId} {w w':World} {row:Option Nat} (hg:w.grownBy w' row) (hr:∀ k,row=some k→HasT w k T):ButT T w w':=fun k _ hk he=>hg.block k hk.lt fun q=>he (hk.one (hr k q.symm))
theorem ButT.set {T:TypeId} {w:World} {p:Addr} (hp:HasT w p.block T) (u:Value):ButT T w (w.setCell p u):=fun k _ hk he=>Below.heap_setCell w p u k (fun q=>by subst q;exact he (hk.one hp))

structure El (α:Type) where
 e:TypeId
 sz:Nat
 f:α→List Value
 len:∀ x,(f x).length=sz
 one:∀ x,∀ u∈f x,u.oneCell'=true
 pos:0 < sz
namespace El
variable {α:Type} (K:El α)
def Lies (w:World) (B:Nat) (A:Option Addr) (xs:List α):Prop:=
 0 < xs.length→∃ g o,A=some ⟨g,o,none⟩∧g < B∧∀ j (hj:j < xs.length) f u,(K.f xs[j])[f]? = some u→w.cell? ⟨g,o+(j*K.sz+f),none⟩=some u
def LiesT (w:World) (A:Option Addr) (xs:List α):Prop:=
 0 < xs.length→∃ g o,A=some ⟨g,o,none⟩∧HasT w g K.e∧∀ j (hj:j < xs.length) f u,(K.f xs[j])[f]? = some u→w.cell? ⟨g,o+(j*K.sz+f),none⟩=some u
def Own (w:World) (B:Nat) (v:Value) (xs:List α):Prop:=w.ownsRow B K.e K.sz v xs.length (xs.flatMap K.f)
variable {K} {w w':World} {B B':Nat} {A:Option Addr} {v:Value} {xs:List α}
theorem Lies.below (h:K.Lies w B A xs) (hb:Below B w w'):K.Lies w' B A xs:=fun hl=>by
 obtain ⟨g,o,e,hg,hc⟩:=h hl;exact ⟨g,o,e,hg,fun j hj f u hu=>(hb.cell hg).trans (hc j hj f u hu)⟩
theorem Lies.more (h:K.Lies w B A xs) (hB:B≤B'):K.Lies w B' A xs:=fun hl=>by
 obtain ⟨g,o,e,hg,hc⟩:=h hl;exact ⟨g,o,e,by omega,hc⟩
theorem Lies.at_ (h:K.Lies w B A xs) {j:Nat} (hj:j < xs.length):∃ g o,A=some ⟨g,o,none⟩∧g < B∧∀ f u,(K.f xs[j])[f]? = some u→w.cell? ⟨g,o+j*K.sz+f,none⟩=some u:=by
 obtain ⟨g,o,e,hg,hc⟩:=h (by omega);exact ⟨g,o,e,hg,fun f u hu=>by rw [Nat.add_assoc];exact hc j hj f u hu⟩
theorem LiesT.nil (w:World) (A:Option Addr):K.LiesT w A []:=fun h=>absurd h (by simp)
theorem LiesT.lies (h:K.LiesT w A xs):K.Lies w w.heap.size A xs:=fun hl=>by
 obtain ⟨g,o,e,hg,hc⟩:=h hl;exact ⟨g,o,e,hg.lt,hc⟩
theorem LiesT.kept (h:K.LiesT w A xs) (hk:∀ k,HasT w k K.e→w'.heap[k]? = w.heap[k]?):K.LiesT w' A xs:=fun hl=>by
 obtain ⟨g,o,e,hg,hc⟩:=h hl;exact ⟨g,o,e,hg.same (hk g hg),fun j hj f u hu=>(World.cell?_of_block (hk g hg)).trans (hc j hj f u hu)⟩
theorem LiesT.but {T:TypeId} (h:K.LiesT w A xs) (hb:ButT T w w') (hT:K.e≠T):K.LiesT w' A xs:=h.kept fun k hk=>hb k _ hk hT
theorem LiesT.below (h:K.LiesT w A xs) (hb:Below w.heap.size w w'):K.LiesT w' A xs:=h.kept fun k hk=>hb.block k hk.lt

theorem flat_len (K:El α) (xs:List α):(xs.flatMap K.f).length=xs.length*K.sz:=by
 induction xs with
 | nil=>simp
 | cons x xs ih=>rw [List.flatMap_cons,List.length_append,K.len,ih,List.length_cons,Nat.succ_mul,Nat.add_comm]
theorem flat_get (K:El α):∀ (xs:List α) (j f:Nat) (hj:j < xs.length) (_:f < K.sz),(xs.flatMap K.f)[j*K.sz+f]? = (K.f xs[j])[f]?
 | x::xs,0,f,_,hf=>by
  rw [List.flatMap_cons,List.getElem?_append_left (by rw [K.len];omega)];simp
 | x::xs,j+1,f,hj,hf=>by
  have e:(j+1)*K.sz=j*K.sz+K.sz:=Nat.succ_mul _ _;rw [List.flatMap_cons,List.getElem?_append_right (by rw [K.len];omega),K.len,show (j+1)*K.sz+f - K.sz=j*K.sz+f by omega,flat_get K xs j f (by simpa using hj) hf];simp
theorem flat_one (K:El α) (xs:List α):∀ u∈xs.flatMap K.f,u.oneCell'=true:=by
 intro u hu;obtain ⟨x,_,h⟩:=List.mem_flatMap.1 hu;exact K.one x u h
theorem Own.nil (w:World) (B:Nat):K.Own w B (.slice none 0 0) []:=World.ownsRow_nil w B _ _
theorem Own.lt (h:K.Own w B v xs):∀ k,v.ownBlock=some k→B≤k∧k < w.heap.size∧HasT w k K.e:=by
 intro k e;rcases h.2 with ⟨rfl,_⟩ | ⟨g,cap,cur,rfl,hB,hh,_⟩
 · cases e
 · injection e with e;subst e;exact ⟨hB,(Array.getElem?_eq_some_iff.1 hh).1,_,_,hh⟩
theorem Own.has (h:K.Own w B v xs):∀ k,v.ownBlock=some k→HasT w k K.e:=fun k e=>(h.lt k e).2.2
theorem Own.form (h:K.Own w B v xs):∃ A c,v = .slice A xs.length c∧xs.length≤c∧(A=none→c=0)∧K.LiesT w A xs:=by
 have h':=h;have hlt:=h.lt;rcases h.2 with ⟨rfl,h0⟩ | ⟨g,cap,cur,rfl,hg,hh,hn,_,hsz,ht⟩
 · have:xs=[]:=List.eq_nil_of_length_eq_zero h0;subst this;exact ⟨none,0,rfl,Nat.le_refl _,fun _=>rfl,fun h=>absurd h (by simp)⟩
 · refine ⟨_,cap,rfl,hn,fun e=>(by cases e),fun _=>⟨g,0,rfl,(hlt g rfl).2.2,fun j hj f u hu=>?_⟩⟩;(have hf:f < K.sz:=by have:=(List.getElem?_eq_some_iff.1 hu).1;simpa [K.len] using this);have hlt2:j*K.sz+f < (xs.flatMap K.f).length:=by
    rw [flat_len];have:=Nat.mul_le_mul_right K.sz (show j+1≤xs.length by omega);rw [Nat.succ_mul] at this;omega
   have:=World.ownsRow.cellAt h' (j*K.sz+f) (by rw [flat_len] at hlt2;exact hlt2);rw [Nat.zero_add,this,flat_get K xs j f hj hf,hu]
theorem Own.formN (h:K.Own w B v xs):∃ A n c,v = .slice A n c∧Hid (xs.length=n)∧n≤c∧(A=none→c=0)∧K.LiesT w A xs:=by
 obtain ⟨A,c,e,h1,h2,h3⟩:=h.form;exact ⟨A,xs.length,c,e,rfl,h1,h2,h3⟩
theorem Own.kept (h:K.Own w B v xs) (hk:∀ k,HasT w k K.e→w'.heap[k]? = w.heap[k]?):K.Own w' B v xs:=by
 have hlt:=h.lt;refine ⟨h.1,?_⟩;rcases h.2 with h0 | ⟨g,cap,cur,rfl,hg,hh,r⟩
 · exact .inl h0
 · exact .inr ⟨g,cap,cur,rfl,hg,(hk g (hlt g rfl).2.2).trans hh,r⟩
theorem Own.but {T:TypeId} (h:K.Own w B v xs) (hb:ButT T w w') (hT:K.e≠T):K.Own w' B v xs:=h.kept fun k hk=>hb k _ hk hT
theorem Own.below (h:K.Own w B v xs) (hb:Below w.heap.size w w'):K.Own w' B v xs:=h.kept fun k hk=>hb.block k hk.lt
theorem Own.base (h:K.Own w B v xs) (hB:B'≤B):K.Own w B' v xs:=by
 refine ⟨h.1,?_⟩;rcases h.2 with h0 | ⟨g,cap,cur,rfl,hg,r⟩
 · exact .inl h0
 · exact .inr ⟨g,cap,cur,rfl,Nat.le_trans hB hg,r⟩
theorem below_grown {w w1 w2:World} (hb:Below B w w1) (hg:w1.grownBy w2 v.ownBlock) (ho:K.Own w1 B v xs) (hB:B≤w1.heap.size):Below B w w2:=
 hb.grown hg hB fun k hk=>(ho.lt k hk).1
section
variable {ops:Array Oper} {rest:List Oper} {o:Oper} {a:Act} {Q:Exit→Act→World→Prop} {C:Act→World→Prop}
theorem op_apps (K:El α) (w:World) (sl:TypeId) (z:Value) (by_:Nat) (hu:Try.prog.underlying sl=some (.slice K.e)) (hi:(Try.prog.info? K.e).map (fun i=>(i.zero,i.size,i.bytes))=some (some z,K.sz,by_)) (hzc:z.cells.size=K.sz) (hby:by_≤128)
 (s x:Operand) (ho:o.op = .call { callee:= .builtin .append,args:=#[s,x],argTypes:=#[sl,sl] })
 (B:Nat) (v:Value) (xs:List α) (hs:a.eval s=v) (hown:K.Own w B v xs) (A:Option Addr) (c:Nat) (L:Nat) (ys:List α) (hx:a.eval x = .slice A ys.length c) (hc0:A=none→c=0) (hy:K.Lies w L A ys)
 (hn:xs.length+ys.length≤1099511627776) (hsz:(xs.length+ys.length)*K.sz≤140737488355328) (hB:B≤w.heap.size) (h:∀ v' w',K.Own w' B v' (xs++ys)→w.grownBy w' v.ownBlock→C (a.put o.dst v') w'):Oper.wp Try.prog o a w C Q:=by
 obtain ⟨i0,hi0,hz0,hz1,hz2⟩:=info_parts hi;rcases A with _ | ad
 · have h0:ys=[]:=by
    rcases ys with _ | ⟨y,ys⟩
    · rfl
    · obtain ⟨g,o,e,_⟩:=hy (by simp);cases e
   subst h0;obtain rfl:=hc0 rfl;have hrun:=run_append_owned_none (P:=Try.prog) w B sl o.type K.e i0 K.sz hu hi0 v xs.length (xs.flatMap K.f) hown;unfold Oper.wp execOp;simp only [ho,resolve,invoke,builtin,Sem.run_bind,Sem.run_pure,Result.andThen_ok,List.map_toArray,List.map_cons,List.map_nil,hs,hx,List.length_nil,hrun];exact h v w (by simpa using hown) (World.grownBy.refl _ _)
 · have hbb:(xs.length+ys.length)*by_≤140737488355328:=by
    have:=Nat.mul_le_mul hn hby;omega
   obtain ⟨v',w',hrun,r1,r2,_⟩:=run_append_own (P:=Try.prog) w B sl o.type K.e i0 z K.sz by_ hu hi0 hz0 hz1 hz2 hzc K.pos v xs.length (xs.flatMap K.f) hown ad ys.length c (ys.flatMap K.f) (by rw [flat_len]) (by
    intro j u hu;(have hj:j < ys.length*K.sz:=by have:=(List.getElem?_eq_some_iff.1 hu).1;rwa [flat_len] at this);have hp:=K.pos
    obtain ⟨g', o', e, _, hc⟩ := hy (by rcases Nat.eq_zero_or_pos ys.length with q | q; · rw [q] at hj; omega
                                        · exact q)
    cases e;have hj2:j / K.sz < ys.length:=Nat.div_lt_of_lt_mul (by rw [Nat.mul_comm];exact hj);have hm:=Nat.mod_lt j hp;(have hdm:j / K.sz*K.sz+j % K.sz=j:=by rw [Nat.mul_comm];exact Nat.div_add_mod j K.sz);have e1:=flat_get K ys (j / K.sz) (j % K.sz) hj2 hm;rw [hdm,hu] at e1;have:=hc (j / K.sz) hj2 (j % K.sz) u e1.symm;rw [add_zero_off]
    rwa [hdm] at this) (flat_one K ys) (by simp only [maxLen];omega) hbb hB
   unfold Oper.wp execOp;simp only [ho,resolve,invoke,builtin,Sem.run_bind,Sem.run_pure,Result.andThen_ok,List.map_toArray,List.map_cons,List.map_nil,hs,hx,hrun];refine h v' w' ?_ r2;show w'.ownsRow B _ K.sz v' (xs++ys).length ((xs++ys).flatMap K.f);rw [List.flatMap_append,List.length_append];simpa using r1
theorem op_app1 (K:El α) (w:World) (sl:TypeId) (z:Value) (by_:Nat) (hu:Try.prog.underlying sl=some (.slice K.e)) (hi:(Try.prog.info? K.e).map (fun i=>(i.zero,i.size,i.bytes))=some (some z,K.sz,by_)) (hzc:z.cells.size=K.sz) (hby:by_≤128) (hsz:K.sz≤100)
 (s x:Operand) (ho:o.op = .call { callee:= .builtin .append,args:=#[s,x],argTypes:=#[sl,sl] })
 (B:Nat) (v:Value) (xs:List α) (hs:a.eval s=v) (hown:K.Own w B v xs) (g c:Nat) (y:α) (hx:a.eval x = .slice (some ⟨g,0,none⟩) 1 c) (t:TypeId) (hy:w.heap[g]? = some (.cells (K.f y).toArray t (0,0)))
 (hn:xs.length≤1000000) (hB:B≤w.heap.size) (h:∀ v' w',K.Own w' B v' (xs++[y])→w.grownBy w' v.ownBlock→C (a.put o.dst v') w'):Oper.wp Try.prog o a w C Q:=by
 have h1:(xs.length+[y].length)*K.sz≤140737488355328:=by
  have:=Nat.mul_le_mul (show xs.length+[y].length≤1000001 by simp;omega) hsz;omega
 refine op_apps K w sl z by_ hu hi hzc hby s x ho B v xs hs hown (some ⟨g,0,none⟩) c (g+1) [y] hx (fun e=>by cases e) (fun _=>⟨g,0,rfl,Nat.lt_succ_self g,fun j hj f u hu=>?_⟩) (by simp;omega) h1 hB h;obtain rfl:j=0:=by simp at hj;omega
 simp only [World.cell?,hy];simpa using hu
theorem app1 (K:El α) (w:World) (hgd:o.guard=none) (sl:TypeId) (z:Value) (by_:Nat) (hu:Try.prog.underlying sl=some (.slice K.e)) (hi:(Try.prog.info? K.e).map (fun i=>(i.zero,i.size,i.bytes))=some (some z,K.sz,by_)) (hzc:z.cells.size=K.sz) (hby:by_≤128) (hsz:K.sz≤100)
 (s x:Operand) (ho:o.op = .call { callee:= .builtin .append,args:=#[s,x],argTypes:=#[sl,sl] })
 (B:Nat) (v:Value) (xs:List α) (hs:a.eval s=v) (hown:K.Own w B v xs) (g c:Nat) (y:α) (hx:a.eval x = .slice (some ⟨g,0,none⟩) 1 c) (t:TypeId) (hy:w.heap[g]? = some (.cells (K.f y).toArray t (0,0)))
 (hn:xs.length≤1000000) (hB:B≤w.heap.size) (h:∀ v' w',K.Own w' B v' (xs++[y])→w.grownBy w' v.ownBlock→wpList Try.prog ops Q rest (a.put o.dst v') w'):wpList Try.prog ops Q (o::rest) a w:=
 wpList_plain hgd fun _ hK'=>op_app1 K w sl z by_ hu hi hzc hby hsz s x ho B v xs hs hown g c y hx t hy hn hB (fun v' w' r1 r2=>hK' _ _ (h v' w' r1 r2))
end
end El
end Go.Proofs.Ytflhcdcifilfcaa

namespace Go.Proofs.Ytflhcdcifilfcaa
open Go Go.RowKit

def CAt (w:World) (g:Nat) (e:TypeId) (cs:List Value):Prop:=w.heap[g]? = some (.cells cs.toArray e (0,0))
theorem CAt.lt {w:World} {g:Nat} {e:TypeId} {cs:List Value} (h:CAt w g e cs):g < w.heap.size:=(Array.getElem?_eq_some_iff.1 h).1
theorem CAt.below {B:Nat} {w w':World} {g:Nat} {e:TypeId} {cs:List Value} (h:CAt w g e cs) (hb:Below B w w') (hg:g < B):CAt w' g e cs:=(hb.block g hg).trans h
theorem CAt.cell {w:World} {g:Nat} {e:TypeId} {cs:List Value} (h:CAt w g e cs) {j:Nat} (hj:j < cs.length):w.cell? ⟨g,j,none⟩=some cs[j]:=by
 unfold CAt at h;simp [World.cell?,h,hj]
theorem CAt.frozen {w:World} {g:Nat} {e:TypeId} {cs:List Value} (h:CAt w g e cs) (j:Nat):w.frozen? ⟨g,j,none⟩=false:=by
 unfold CAt at h;simp [World.frozen?,h]
theorem CAt.set {w:World} {g:Nat} {e:TypeId} {cs:List Value} (h:CAt w g e cs) (j:Nat) (u:Value):CAt (w.setCell ⟨g,j,none⟩ u) g e (cs.set j u):=by
 unfold CAt at h ⊢;simp only [World.setCell,Array.getElem?_modify,h];simp
theorem CAt.other {w:World} {g:Nat} {e:TypeId} {cs:List Value} (h:CAt w g e cs) {p:Addr} (hp:g≠p.block) (u:Value):CAt (w.setCell p u) g e cs:=(Below.heap_setCell w p u g hp).trans h
end Go.Proofs.Ytflhcdcifilfcaa

namespace Go.Proofs.Ytflhcdcifilfcaa
open Go

def blI (x:Int):Bool:=decide (x=32∨x=9∨x=13∨x=10)
def leI (x:Int):Bool:=decide ((97≤x∧x≤122)∨(65≤x∧x≤90)∨x=95)
def diI (x:Int):Bool:=decide (48≤x∧x≤57)
def tBl (c:UInt8):Bool:=blI (c.toNat:Int)
def tLe (c:UInt8):Bool:=leI (c.toNat:Int)
def tDi (c:UInt8):Bool:=diI (c.toNat:Int)
def tLd (c:UInt8):Bool:=tLe c || tDi c
def nl (l:List UInt8):Nat:=l.count 10
theorem nl_nil:nl []=0:=rfl
theorem nl_cons (c:UInt8) (l:List UInt8):nl (c::l)=nl l+if c=10 then 1 else 0:=by
 unfold nl;rw [List.count_cons];simp
theorem nl_append (a b:List UInt8):nl (a++b)=nl a+nl b:=List.count_append

def sk:Bool→List UInt8→List UInt8
 | _,[]=>[]
 | true,c::r=>if c=10 then sk false r else sk true r
 | false,c::r=>if tBl c then sk false r else if c=47∧r.head? = some 47 then sk true r else c::r
theorem sk_suffix (m:Bool) (l:List UInt8):∃ u,l=u++sk m l:=by
 induction l generalizing m with
 | nil=>exact ⟨[],by cases m<;>rfl⟩
 | cons c r ih=>
  obtain ⟨u,hu⟩:=ih true;obtain ⟨v,hv⟩:=ih false;cases m with
  | true=>
   simp only [sk];split
   · exact ⟨c::v,by rw [List.cons_append,← hv]⟩
   · exact ⟨c::u,by rw [List.cons_append,← hu]⟩
  | false=>
   simp only [sk];split
   · exact ⟨c::v,by rw [List.cons_append,← hv]⟩
   · split
     · exact ⟨c::u,by rw [List.cons_append,← hu]⟩
     · exact ⟨[],rfl⟩
theorem sk_len (m:Bool) (l:List UInt8):(sk m l).length≤l.length:=by
 obtain ⟨u,hu⟩:=sk_suffix m l;have:=congrArg List.length hu;rw [List.length_append] at this;omega
theorem sk_nl (m:Bool) (l:List UInt8):nl (sk m l)≤nl l:=by
 obtain ⟨u,hu⟩:=sk_suffix m l;have:=congrArg nl hu;rw [nl_append] at this;omega
def rem (l:List UInt8):Bool:=[47,47].isPrefixOf l
def wordsL:List (List UInt8):=[[116,121,112,101],[115,116,114,117,99,116],[102,117,110,99],[118,97,114],[105,102],[101,108,115,101],[102,111,114],[114,101,116,117,114,110],[112,114,105,110,116],[105,110,112,117,116],[105,110,116],[98,111,111,108],[116,114,117,101],[102,97,108,115,101]]
def sigs2:List (List UInt8):=[[38,38],[124,124],[61,61],[33,61],[60,61],[62,61]]
def sigs1:List (List UInt8):=[[40],[41],[123],[125],[91],[93],[44],[59],[46],[61],[43],[45],[42],[47],[37],[60],[62],[33]]
def sign (l:List UInt8):List UInt8:=if l.take 2∈sigs2 then l.take 2 else if l.take 1∈sigs1 then l.take 1 else []
def val (l:List UInt8):Nat:=l.foldl (fun a c=>10*a+(c.toNat - 48)) 0
def tok1:List UInt8→Option (Int×List UInt8×Int)
 | []=>none
 | c::r=>
  if tLe c then
   if 24 < ((c::r).takeWhile tLd).length then none
   else some (if (c::r).takeWhile tLd∈wordsL then 3 else 1,(c::r).takeWhile tLd,0)
  else if tDi c then
   if ((c::r).dropWhile tDi).head?.any tLe=true∨(c=48∧((c::r).takeWhile tDi).length≠1)∨9223372036854775808≤val ((c::r).takeWhile tDi) then none
   else some (2,(c::r).takeWhile tDi,(val ((c::r).takeWhile tDi):Int))
  else if sign (c::r)=[] then none else some (4,sign (c::r),0)

theorem bl_cases {b:UInt8} (h:tBl b=true):tLe b=false∧tDi b=false∧tLd b=false:=by
 unfold tBl blI at h;have h:=of_decide_eq_true h;have h1:tLe b=false:=decide_eq_false (by omega);have h2:tDi b=false:=decide_eq_false (by omega);exact ⟨h1,h2,by simp [tLd,h1,h2]⟩
theorem sigs2_len:∀ s∈sigs2,s.length=2:=by decide
theorem sigs1_len:∀ s∈sigs1,s.length=1:=by decide
theorem take_all (p:UInt8→Bool) (l:List UInt8):∀ x∈l.takeWhile p,p x=true:=by
 intro x hx;have h:=List.all_takeWhile (p:=p) (l:=l);exact List.all_eq_true.1 h x hx
theorem take_self (p:UInt8→Bool) {l:List UInt8} (h:∀ x∈l,p x=true):l.takeWhile p=l:=by
 induction l with
 | nil=>rfl
 | cons c r ih=>rw [List.takeWhile_cons,if_pos (h c (by simp)),ih fun x hx=>h x (List.mem_cons_of_mem _ hx)]
theorem drop_self (p:UInt8→Bool) {l:List UInt8} (h:∀ x∈l,p x=true):l.dropWhile p=[]:=by
 induction l with
 | nil=>rfl
 | cons c r ih=>rw [List.dropWhile_cons,if_pos (h c (by simp)),ih fun x hx=>h x (List.mem_cons_of_mem _ hx)]
structure TokOk (kd:Int) (s:List UInt8) (nu:Int):Prop where
 ne:s≠[]
 self:tok1 s=some (kd,s,nu)
 kind:((kd=1∨kd=3)∧(∀ x∈s,tLd x=true)∧s.head?.any tDi=false∧nu=0∧s.length≤24)∨(kd=2∧(∀ x∈s,tDi x=true)∧nu=(val s:Int)∧val s < 9223372036854775808)∨(kd=4∧s.head?.any tLd=false∧s.length≤2∧nu=0∧(∀ x∈s,tBl x=false)∧(s.head? = some 47→s=[47]))
theorem tok1_ok {l:List UInt8} {kd:Int} {s:List UInt8} {nu:Int} (h:tok1 l=some (kd,s,nu)):TokOk kd s nu∧l=s++l.drop s.length:=by
 rcases l with _ | ⟨c,r⟩
 · cases h
 have hp:∀ p:UInt8→Bool,c::r=(c::r).takeWhile p++(c::r).drop ((c::r).takeWhile p).length:=by
  intro p;have e:=List.takeWhile_append_dropWhile (p:=p) (l:=c::r);have e2:(c::r).drop ((c::r).takeWhile p).length=(c::r).dropWhile p:=by
   conv=>lhs;arg 2;rw [← e]
   rw [List.drop_left]
  rw [e2,e]
 simp only [tok1] at h;split at h
 · rename_i h1;split at h
   · cases h
   · rename_i h2;injection h with h;injection h with h3 h;injection h with h4 h5;(have hc:(c::r).takeWhile tLd=c::r.takeWhile tLd:=by rw [List.takeWhile_cons,if_pos (by simp [tLd,h1])]);(have ha:∀ x∈s,tLd x=true:=by rw [← h4];exact take_all tLd _);(have hs:s=c::r.takeWhile tLd:=by rw [← h4,hc]);have hd:tDi c=false:=by
      unfold tLe leI at h1;have h1:=of_decide_eq_true h1;exact decide_eq_false (by omega)
     refine ⟨⟨by rw [hs];simp,?_,.inl ⟨?_,ha,by rw [hs];simp [hd],h5.symm,by rw [← h4];omega⟩⟩,by rw [← h4];exact hp tLd⟩
     · have e1:=take_self tLd ha;rw [hs] at e1 ⊢;simp only [tok1,h1,if_true];rw [e1,← hs];rw [h4] at h2 h3;rw [if_neg h2,h3,h5]
     · rw [← h3];split
       · exact .inr rfl
       · exact .inl rfl
 · rename_i h1;split at h
   · rename_i h2;split at h
     · cases h
     · rename_i h6;injection h with h;injection h with h3 h;injection h with h4 h5;(have hc:(c::r).takeWhile tDi=c::r.takeWhile tDi:=by rw [List.takeWhile_cons,if_pos h2]);(have ha:∀ x∈s,tDi x=true:=by rw [← h4];exact take_all tDi _);(have hs:s=c::r.takeWhile tDi:=by rw [← h4,hc]);rw [h4] at h5 h6;(have hv:val s < 9223372036854775808:=Nat.lt_of_not_le fun q=>h6 (.inr (.inr q)));refine ⟨⟨by rw [hs];simp,?_,.inr (.inl ⟨h3.symm,ha,h5.symm,hv⟩)⟩,by rw [← h4];exact hp tDi⟩;have e1:=take_self tDi ha;have e2:=drop_self tDi ha;rw [hs] at e1 e2 ⊢;simp only [tok1,h1,h2,if_true];rw [e1,e2,← hs];have h7:¬ (c=48∧s.length≠1):=fun q=>h6 (.inr (.inl q))
       rw [if_neg (by simp), if_neg (by rintro (q | q | q); · simp at q
                                        · exact h7 q
                                        · omega),← h3,h5]
   · rename_i h2;split at h
     · cases h
     · rename_i h6;injection h with h;injection h with h3 h;injection h with h4 h5;(have hnl:tLd c=false:=by simp only [Bool.not_eq_true] at h1 h2;simp [tLd,h1,h2]);have key:s=(c::r).take s.length∧s≠[]∧sign s=s∧s.length≤2∧s.head? = some c∧(∀ x∈s,tBl x=false)∧(c=47→s=[47]):=by
        rw [← h4];unfold sign at h6 ⊢;split
        · rename_i h7;have hl:=sigs2_len _ h7;(have hb:∀ s∈sigs2,(∀ x∈s,tBl x=false)∧s.head? ≠ some 47:=by decide);rw [hl];refine ⟨rfl,fun e=>(by rw [e] at hl;cases hl),by rw [List.take_take,Nat.min_self,if_pos h7],Nat.le_refl _,by simp,(hb _ h7).1,fun e=>absurd (by simp [e]) (hb _ h7).2⟩
        · rename_i h7;rw [if_neg h7] at h6;split
          · rename_i h8;have hl:=sigs1_len _ h8;(have hb:∀ s∈sigs1,(∀ x∈s,tBl x=false):=by decide);rw [hl];refine ⟨rfl,fun e=>(by rw [e] at hl;cases hl),?_,by omega,by simp,hb _ h8,fun e=>by simp [e]⟩;(have h9:([c]:List UInt8) ∉ sigs2:=fun h=>by have:=sigs2_len _ h;simp at this);have h10:(c::r).take 1=[c]:=rfl;rw [h10] at h8 ⊢;have t3:([c]:List UInt8).take 2=[c]:=rfl;have t4:([c]:List UInt8).take 1=[c]:=rfl;rw [t3,t4,if_neg h9,if_pos h8]
          · rename_i h8;rw [if_neg h8] at h6;exact absurd rfl h6
       obtain ⟨k1,k2,k3,k4,k5,k6,k7⟩:=key;have k8:c::r=s++(c::r).drop s.length:=by
        have:=List.take_append_drop s.length (c::r);rw [← k1] at this;exact this.symm
       refine ⟨⟨k2,?_,.inr (.inr ⟨h3.symm,by rw [k5];simpa using hnl,k4,h5.symm,k6,fun e=>k7 (by rw [k5] at e;injection e)⟩)⟩,k8⟩;rcases hs:s with _ | ⟨d,q⟩
       · exact absurd hs k2
       rw [hs] at k3 k5 k2;injection k5 with k5;subst k5;simp only [tok1,h1,h2];rw [if_neg (by simp),if_neg (by simp),k3,if_neg k2,← h3,← h5]

structure Tk where
 kd:Int
 tx:List UInt8
 nu:Int
 ln:Nat
def consT (t:Tk):Except Nat (List Tk)→Except Nat (List Tk)
 | .error e=> .error e
 | .ok ts=> .ok (t::ts)
def appT (a:List Tk):Except Nat (List Tk)→Except Nat (List Tk)
 | .error e=> .error e
 | .ok ts=> .ok (a++ts)
theorem appT_cons (a:List Tk) (t:Tk) (e:Except Nat (List Tk)):appT a (consT t e)=appT (a++[t]) e:=by
 cases e
 · rfl
 · simp [appT,consT]
def scanR (N:Nat):Nat→List UInt8→Except Nat (List Tk)
 | _,[]=> .ok []
 | 0,_::_=> .ok []
 | n+1,c::r=>match tok1 (c::r) with
  | none=> .error (N - nl (c::r))
  | some (kd,s,nu)=>consT ⟨kd,s,nu,N - nl (c::r)⟩ (scanR N n (sk false ((c::r).drop s.length)))
theorem scanR_fuel (N:Nat):∀ (n m:Nat) (l:List UInt8),l.length≤n→l.length≤m→scanR N n l=scanR N m l
 | n,m,[],_,_=>by rw [scanR,scanR]
 | 0,_,c::r,h,_=>by simp at h
 | _,0,c::r,_,h=>by simp at h
 | n+1,m+1,c::r,h1,h2=>by
  simp only [scanR];rcases h:tok1 (c::r) with _ | ⟨kd,s,nu⟩
  · rfl
  · have hne:1≤s.length:=List.length_pos_iff.2 (tok1_ok h).1.ne;have:=sk_len false ((c::r).drop s.length);rw [List.length_drop] at this;simp only;rw [scanR_fuel N n m _ (by simp only [List.length_cons] at *;omega) (by simp only [List.length_cons] at *;omega)]
def scanS (N:Nat) (l:List UInt8):Except Nat (List Tk):=scanR N l.length l
theorem scanS_nil (N:Nat):scanS N [] = .ok []:=rfl
theorem scanS_none (N:Nat) {l:List UInt8} (hl:l≠[]) (h:tok1 l=none):scanS N l = .error (N - nl l):=by
 rcases l with _ | ⟨c,r⟩
 · exact absurd rfl hl
 · unfold scanS;rw [List.length_cons,scanR,h]
theorem scanS_some (N:Nat) {l:List UInt8} {kd:Int} {s:List UInt8} {nu:Int} (h:tok1 l=some (kd,s,nu)):scanS N l=consT ⟨kd,s,nu,N - nl l⟩ (scanS N (sk false (l.drop s.length))):=by
 rcases l with _ | ⟨c,r⟩
 · cases h
 · unfold scanS;rw [List.length_cons,scanR,h];simp only;have hne:1≤s.length:=List.length_pos_iff.2 (tok1_ok h).1.ne;have:=sk_len false ((c::r).drop s.length);rw [List.length_drop,List.length_cons] at this;rw [scanR_fuel N r.length _ _ (by omega) (Nat.le_refl _)]
def scanP (l:List UInt8):Except Nat (List Tk):=scanS (1+nl l) (sk false l)
end Go.Proofs.Ytflhcdcifilfcaa
