/-
  Merged for a claim: S0C, GE, S0E, S0F.
-/
import Derived.Test.YtflhcdcifilfcaaHS0B
import Derived.Test.YtflhcdcifilfcaaHJ8
namespace Go.Proofs.Ytflhcdcifilfcaa
open Go Go.RowKit

def semiS (x:PS) (u:List To):R PS:=takeS [59] u fun v=> .ok x v
def sf0 (ln:Int):SF:=⟨0,ln,[],[],[],ty0⟩
def sfK (kd ln:Int):SF:=⟨kd,ln,[],[],[],ty0⟩
def hdS (u:List To):R PS:=
 if isW wIf u=true then valP (sfK 6 (hd u).ln) [] u.tail
 else if isW wFor u=true then valP (sfK 7 (hd u).ln) [] u.tail
 else if isW wVar u=true then (varS (sf0 (hd u).ln) [] u.tail).bind semiS
 else if isW wPrint u=true then takeS [40] u.tail fun v=>(valP (sfK 8 (hd u).ln) [] v).bind fun x w=>takeS [41] w fun z=>semiS x z
 else if isW wReturn u=true then (if isS [59] u.tail=true then semiS (sfK 10 (hd u).ln,[]) u.tail else (valP (sfK 10 (hd u).ln) [] u.tail).bind semiS)
 else (nmdS (sf0 (hd u).ln) [] u).bind semiS
theorem comS_comP (s:SF):∀ (n:Nat) (es:List Ex) (u:List To),comS valO n (s,es) u=(comP exP n u).bind fun l v=> .ok (s,es++l) v
 | 0,_,_=>rfl
 | n+1,es,u=>by
  rw [comS,comP,R.bind_assoc,show valO (s,es) u=(exP u).bind fun x v=> .ok ((s,es++[x]):PS) v from rfl,R.bind_assoc];refine bind_cong fun x v _=>?_
  rw [R.bind_ok];by_cases h:isS [44] v=true
  · rw [if_pos h,if_pos h,comS_comP s n,R.bind_assoc];(refine bind_cong fun l z _=>?_);rw [R.bind_ok,List.append_assoc];rfl
  · rw [if_neg h,if_neg h,takeS_bind];rfl
theorem lisS_argP (s:SF) (es:List Ex) (u:List To):lisS valO (s,es) u=(argP u).bind fun l v=> .ok (s,es++l) v:=by
 unfold lisS argP lisP;by_cases h:isS [41] u=true
 · rw [if_pos h,if_pos h,R.bind_ok,List.append_nil]
 · rw [if_neg h,if_neg h,comS_comP]
theorem bdS_bind {α:Type} (r:R α) (f:α→List To→R PS):bdS (r.bind f)=r.bind fun x v=>bdS (f x v):=R.bind_assoc _ _ _
theorem bdS_takeS (tx:List UInt8) (u:List To) (f:List To→R PS):bdS (takeS tx u f)=takeS tx u fun v=>bdS (f v):=takeS_bind
theorem bdS_takeK (kd:Int) (u:List To) (f:To→List To→R PS):bdS (takeK kd u f)=takeK kd u fun t v=>bdS (f t v):=by
 unfold bdS takeK;split<;>rfl
theorem bdS_ite {c:Prop} [Decidable c] (a b:R PS):bdS (if c then a else b)=if c then bdS a else bdS b:=by split<;>rfl
theorem bdS_semi (x:PS) (u:List To):bdS (semiS x u)=semi (toSt x) u:=bdS_takeS _ _ _
theorem bdS_bsemi (r:R PS):bdS (r.bind semiS)=(bdS r).bind semi:=by
 rw [bdS_bind];unfold bdS;rw [R.bind_assoc];exact bind_cong fun x v _=>bdS_semi x v
theorem bdS_val (s:SF) (es:List Ex) (u:List To):bdS (valP s es u)=(exP u).bind fun x v=> .ok (toSt (s,es++[x])) v:=bdS_bind _ _
theorem isC_K {u:List To} (h:isC u=true):isK 1 u=true∧isS [40] u.tail=true:=by
 unfold isC at h
 rwa [Bool.and_eq_true] at h
theorem call_args (s:SF) (es:List Ex) (u:List To) (h:isC u=true):callS s es u=(argP u.tail.tail).bind fun l v=> .ok ((⟨5,s.ln,s.nm,s.fl,(hd u).tx,s.ty⟩,es++l):PS) v:=by
 unfold callS;rw [takeK_yes (isC_K h).1,takeS_yes (isC_K h).2,lisS_argP]
theorem bdS_set (ln:Int) (nm:List UInt8) (u:List To):bdS (setS ⟨0,ln,nm,[],[],ty0⟩ [] u)=setP ln nm u:=by
 unfold setS setP;rw [bdS_ite,bdS_ite,bdS_takeS];by_cases h:isW wInput u=true
 · rw [if_pos h,if_pos h];refine congrArg (takeS _ _) (funext fun v=>?_);rw [bdS_takeS];rfl
 · rw [if_neg h,if_neg h];by_cases h2:isC u=true
   · rw [if_pos h2,if_pos h2,call_args _ _ _ h2,bdS_bind];rfl
   · rw [if_neg h2,if_neg h2,bdS_val];rfl
theorem bdS_nmd (ln:Int) (u:List To):bdS (nmdS (sf0 ln) [] u)=nmdP ln u:=by
 unfold nmdS nmdP;rw [bdS_ite];by_cases h2:isC u=true
 · rw [if_pos h2,if_pos h2,call_args _ _ _ h2,bdS_bind];rfl
 · rw [if_neg h2,if_neg h2,bdS_takeK];refine congrArg (takeK _ _) (funext fun t=>funext fun v=>?_);rw [bdS_ite,bdS_ite];refine congr (congrArg _ ?_) (congr (congrArg _ ?_) ?_)
   · rw [bdS_bind];unfold valP;rw [R.bind_assoc];(refine bind_cong fun x w _=>?_);rw [R.bind_ok,bdS_takeS];refine congrArg (takeS _ _) (funext fun z=>?_);rw [bdS_takeS];refine congrArg (takeS _ _) (funext fun y=>?_);rw [bdS_bind];rfl
   · rw [bdS_takeK];refine congrArg (takeK _ _) (funext fun f=>funext fun w=>?_);rw [bdS_takeS];refine congrArg (takeS _ _) (funext fun z=>?_);rw [bdS_val];rfl
   · rw [bdS_takeS];exact congrArg (takeS _ _) (funext fun w=>bdS_set ln t.tx w)
theorem bdS_var (ln:Int) (u:List To):bdS (varS (sf0 ln) [] u)=varP ln u:=by
 unfold varS varP;rw [bdS_takeK];refine congrArg (takeK _ _) (funext fun t=>funext fun v=>?_);rw [bdS_bind];refine bind_cong fun ty w _=>?_
 rw [bdS_ite,bdS_val];rfl
theorem hdS_hdP (u:List To):bdS (hdS u)=hdP u:=by
 unfold hdS hdP;rw [bdS_ite,bdS_ite,bdS_ite,bdS_ite,bdS_ite,bdS_ite];refine congr (congrArg _ ?_) (congr (congrArg _ ?_) (congr (congrArg _ ?_) (congr (congrArg _ ?_) (congr (congrArg _ (congr (congrArg _ ?_) ?_)) ?_))))
 · rw [bdS_val];rfl
 · rw [bdS_val];rfl
 · rw [bdS_bsemi,bdS_var]
 · rw [bdS_takeS];refine congrArg (takeS _ _) (funext fun v=>?_);rw [bdS_bind];unfold valP;rw [R.bind_assoc];(refine bind_cong fun x w _=>?_);rw [R.bind_ok,bdS_takeS];refine congrArg (takeS _ _) (funext fun z=>?_);rw [bdS_semi];rfl
 · rw [bdS_semi];rfl
 · rw [bdS_bsemi,bdS_val,R.bind_assoc];rfl
 · rw [bdS_bsemi,bdS_nmd]
theorem tok_f3 (a b x d:Value) (w:World):(Instr.field 77 (.agg #[a,b,x,d]) 3).run Try.prog w = .ok d w:=by kernel_rfl
def StR (w:World) (gp:Nat) (A:Option Addr) (c:Nat) (l:List To) (r:R PS) (e:Ending) (w':World):Prop:=match r with
 | .ok x v=>∃ t:XS,e = .returned (sV t)∧t.d=toSt x∧t.Ok w' (fun g=>w.heap.size≤g)∧Ps w' gp A c l v∧w.grownBy w' (some gp)
 | .bad v=>e = .panicked misC∧Ps w' gp A c l v∧w.grownBy w' (some gp)
 | .out=>False
theorem StR.bad' {w W:World} {gp:Nat} {A:Option Addr} {c:Nat} {l x:List To} {r:R PS} {e:Ending} (hr:r = .bad x) (he:e = .panicked misC) (hp:Ps W gp A c l x) (hg:w.grownBy W (some gp)):StR w gp A c l r e W:=by
 subst hr;exact ⟨he,hp,hg⟩
theorem st_size:(Try.prog.info? 51).map (·.size)=some 11:=by kernel_rfl
theorem st_back {fn:Func} {p:Tmp} (h:fn.results=#[.cell p 51]) {tmps:Array Value} {w:World} {g:Nat} (hp:tmps.getD p undef = .pointer (some ⟨g,0,none⟩))
 {t:XS} (hg:CAt w g 51 t.cs):(results fn tmps).run Try.prog w = .ok (sV t) w:=by
 cases t;exact results_cell_row h tmps w g _ _ _ _ hp hg Try.underlying51 rfl st_size
def zSt:List Value:=[.int .u8 0,.int .i64 0,.string ⟨#[]⟩,.string ⟨#[]⟩,.string ⟨#[]⟩,.int .u8 0,.int .i64 0,.string ⟨#[]⟩,.slice none 0 0,.slice none 0 0,.slice none 0 0]
def xsOf (s:SF) (kA:Option Addr) (kc:Nat) (ks:List XT):XS:= .mk s.kd s.ln s.nm s.fl s.cl s.ty kA kc ks none 0 [] none 0 []
def putS (W:World) (g:Nat) (s:SF) (v:Value):World:=
 ((((((((((W.setCell ⟨g,0,none⟩ (.int .u8 s.kd)).setCell ⟨g,1,none⟩ (.int .i64 s.ln)).setCell ⟨g,2,none⟩ (.string (str s.nm))).setCell ⟨g,3,none⟩ (.string (str s.fl))).setCell ⟨g,4,none⟩ (.string (str s.cl))).setCell ⟨g,5,none⟩ (.int .u8 s.ty.kd)).setCell ⟨g,6,none⟩ (.int .i64 s.ty.n)).setCell ⟨g,7,none⟩ (.string (str s.ty.nm))).setCell ⟨g,8,none⟩ v).setCell ⟨g,9,none⟩ (.slice none 0 0)).setCell ⟨g,10,none⟩ (.slice none 0 0)
theorem putS_at {W:World} {g:Nat} (s:SF) (v:Value) (h:CAt W g 51 zSt):CAt (putS W g s v) g 51 (s.cs v):=((((((((((h.set 0 _).set 1 _).set 2 _).set 3 _).set 4 _).set 5 _).set 6 _).set 7 _).set 8 _).set 9 _).set 10 _
theorem putS_below {W:World} {B g:Nat} (s:SF) (v:Value) (h:B≤g):Below B W (putS W g s v):=
 (((((((((((Below.refl B W).setCell (p:=⟨g,0,none⟩) h _).setCell (p:=⟨g,1,none⟩) h _).setCell (p:=⟨g,2,none⟩) h _).setCell (p:=⟨g,3,none⟩) h _).setCell (p:=⟨g,4,none⟩) h _).setCell (p:=⟨g,5,none⟩) h _).setCell (p:=⟨g,6,none⟩) h _).setCell (p:=⟨g,7,none⟩) h _).setCell (p:=⟨g,8,none⟩) h _).setCell (p:=⟨g,9,none⟩) h _).setCell (p:=⟨g,10,none⟩) h _
theorem putS_heap {W:World} {g k:Nat} (s:SF) (v:Value) (h:k≠g):(putS W g s v).heap[k]? = W.heap[k]? := by
 unfold putS;rw [Below.heap_setCell _ _ _ k h,Below.heap_setCell _ _ _ k h,Below.heap_setCell _ _ _ k h,Below.heap_setCell _ _ _ k h,Below.heap_setCell _ _ _ k h,Below.heap_setCell _ _ _ k h,Below.heap_setCell _ _ _ k h,Below.heap_setCell _ _ _ k h,Below.heap_setCell _ _ _ k h,Below.heap_setCell _ _ _ k h,Below.heap_setCell _ _ _ k h]
set_option maxHeartbeats 4000000 in
theorem st_end {fn:Func} (hf:fn.results=#[.cell 2 51]) {tmps:Array Value} {w w1 wf W:World} {gp gs:Nat} {A:Option Addr} {c:Nat} {l u:List To} {s:SF} {kA:Option Addr} {kc:Nat} {ks:List XT} {r:R PS}
 (hp:tmps.getD 2 undef = .pointer (some ⟨w.heap.size,0,none⟩)) (h:SmZ w1 wf gp gs A c l s (.slice kA ks.length kc) ks ks (.slice kA ks.length kc) W u) (h1:w.grownBy w1 (some gp)) (hz:CAt w1 w.heap.size 51 zSt) (hgp:gp < w.heap.size) (hr:r = .ok (s,xsd ks) u) :
 bodyPost Try.prog fn (StR w gp A c l r) .ret { tmps:=tmps,defers:=[] } (putS W w.heap.size s (.slice kA ks.length kc)):=by
 subst hr;have hn:=h.n;have hw:w.heap.size < w1.heap.size:=hz.lt;have hzW:CAt W w.heap.size 51 zSt:=(h.g.block _ hw (fun e=>by injection e with e;omega)).trans hz;have hb:=putS_below (W:=W) (B:=w.heap.size) (g:=w.heap.size) s (.slice kA ks.length kc) (Nat.le_refl _);refine bodyPost_ret (st_back (t:=xsOf s kA kc ks) hf hp (putS_at s _ hzW)) rfl ⟨xsOf s kA kc ks,rfl,?_,?_,h.p.below hb hgp,grown_new (grown_trans h1 h.g) hb⟩
 · unfold xsOf;rw [XS.d,xssd];rfl
 · obtain ⟨A2,c2,e2,k1,k2,k3⟩:=h.r.form;injection e2 with e2 _ e3;subst e2 e3;(have hK:∀ g:Nat,gs < g→(putS W w.heap.size s (.slice kA ks.length kc)).heap[g]? = W.heap[g]? := fun g hg=>putS_heap s _ (by omega));(have hgs:∀ g:Nat,gs < g→w.heap.size≤g:=fun g hg=>by omega);obtain ⟨W9,hW9⟩:∃ W9,putS W w.heap.size s (.slice kA ks.length kc)=W9:=⟨_,rfl⟩;rw [hW9] at hK ⊢;clear hW9 hb hzW;have hxs:xsOk W9 (fun g=>w.heap.size≤g) ks:=xsOk.keep (P:=fun g=>gs < g∧(Value.slice kA ks.length kc).ownBlock≠some g) (Q:=fun g=>w.heap.size≤g) (fun g q _=>hK g q.1) (fun g q=>hgs g q.1) ks h.k;unfold xsOf;rw [XS.Ok,xssOk];refine ⟨⟨⟨?_,k1,k2,fun hl a e=>?_⟩,⟨El.LiesT.nil _ _,Nat.le_refl _,fun _=>rfl,fun hl=>absurd hl (by simp)⟩,⟨El.LiesT.nil _ _,Nat.le_refl _,fun _=>rfl,fun hl=>absurd hl (by simp)⟩⟩,hxs,trivial,trivial⟩
   · refine liesP_keep (P:=fun g=>gs < g) k3 (fun hl a e=>?_) (fun g q _=>hK g q);subst e;obtain ⟨g9,c9,e9⟩:=El.Own.at0 h.r hl;injection e9 with e9;injection e9 with e9;subst e9;exact (h.r.lt _ rfl).1
   · subst e;obtain ⟨g9,c9,e9⟩:=El.Own.at0 h.r hl;injection e9 with e9;injection e9 with e9;subst e9;exact hgs g9 (h.r.lt _ rfl).1
end Go.Proofs.Ytflhcdcifilfcaa

namespace Go.Proofs.Ytflhcdcifilfcaa
open Go.ChangeShapes Go.WideShapes Go.ChangeAt Go.RowKit Go.Deep

namespace El
variable {α:Type} {K:El α} {W:World} {B g cp:Nat} {xs:List α} {y y':α}
theorem Own.setLast (h:K.Own W B (.slice (some ⟨g,0,none⟩) (xs.length+1) cp) (xs++[y])) (f:Nat) (u:Value) (hf:(K.f y).set f u=K.f y'):K.Own (W.setCell ⟨g,xs.length*K.sz+f,none⟩ u) B (.slice (some ⟨g,0,none⟩) (xs.length+1) cp) (xs++[y']):=by
 have e:(xs++[y]).length=xs.length+1:=by simp
 have e':(xs++[y']).length=xs.length+1:=by simp
 have h0:W.ownsRow B K.e K.sz (.slice (some ⟨g,0,none⟩) (xs.length+1) cp) (xs.length+1) ((xs++[y]).flatMap K.f):=by
  have:=h;unfold Own at this
  rwa [e] at this
 have h1:=(World.ownsRow.stored h0 (xs.length*K.sz+f) u).1;have hl:((xs++[y]).flatMap K.f).set (xs.length*K.sz+f) u=(xs++[y']).flatMap K.f:=by
  rw [List.flatMap_append,List.flatMap_append,List.set_append_right _ _ (by rw [flat_len];omega),flat_len,Nat.add_sub_cancel_left];simp [hf]
 rw [hl] at h1;unfold Own;rw [e'];exact h1
theorem Own.lastAt (h:K.Own W B (.slice (some ⟨g,0,none⟩) (xs.length+1) cp) (xs++[y])) {f:Nat} {z:Value} (hz:(K.f y)[f]? = some z):W.cell? ⟨g,xs.length*K.sz+f,none⟩=some z:=by
 have hf:f < K.sz:=by
  have:=(List.getElem?_eq_some_iff.1 hz).1
  rwa [K.len] at this
 have e:(xs++[y]).length=xs.length+1:=by simp
 have h0:W.ownsRow B K.e K.sz (.slice (some ⟨g,0,none⟩) (xs.length+1) cp) (xs.length+1) ((xs++[y]).flatMap K.f):=by
  have:=h;unfold Own at this
  rwa [e] at this
 have h1:=World.ownsRow.cellAt h0 (xs.length*K.sz+f) (by rw [Nat.succ_mul];omega);rw [h1];refine (flat_get K (xs++[y]) xs.length f (by simp) hf).trans ?_;simpa using hz
theorem Own.lastFrozen (h:K.Own W B (.slice (some ⟨g,0,none⟩) (xs.length+1) cp) (xs++[y])) (j:Nat):W.frozen? ⟨g,j,none⟩=false:=by
 have e:(xs++[y]).length=xs.length+1:=by simp
 have h0:W.ownsRow B K.e K.sz (.slice (some ⟨g,0,none⟩) (xs.length+1) cp) (xs.length+1) ((xs++[y]).flatMap K.f):=by
  have:=h;unfold Own at this
  rwa [e] at this
 exact World.ownsRow.frozenAt h0 j
theorem Own.keptB {w w':World} {v:Value} {row:Option Nat} (h:K.Own w B v xs) (hg:w.grownBy w' row) (hne:∀ k,v.ownBlock=some k→row≠some k):K.Own w' B v xs:=
 World.ownsRow.kept h hg (by
  cases e:v.ownBlock with
  | none=>exact .inl rfl
  | some k=>exact .inr (fun q=>hne k e q.symm))
end El
end Go.Proofs.Ytflhcdcifilfcaa

namespace Go.Proofs.Ytflhcdcifilfcaa
open Go Go.RowKit

structure LvM where
 xs:List XS
 A:Option Addr
 c:Nat
 el:Bool
def LvM.v (m:LvM):Value:= .slice m.A m.xs.length m.c
def LvM.cs (m:LvM):List Value:=[m.v,.bool m.el]
def eLv:El LvM:=⟨124,2,LvM.cs,fun _=>rfl,fun x u hu=>by
 simp [LvM.cs,LvM.v] at hu
 rcases hu with rfl | rfl<;>rfl,by omega⟩
theorem lv_info:(Try.prog.info? 124).map (fun i=>(i.zero,i.size,i.bytes))=some (some (.agg #[.slice none 0 0,.bool false]),2,32):=by kernel_rfl
def LvM.d (m:LvM):Lv:=⟨xssd m.xs,m.el⟩
def OwnB (ms:List LvM) (g:Nat):Prop:=∃ m∈ms,m.v.ownBlock=some g
def Apart2 (a b:LvM):Prop:=∀ k,a.v.ownBlock=some k→b.v.ownBlock≠some k
structure BlZ (w:World) (gp:Nat) (A:Option Addr) (c:Nat) (l:List To) (v:Value) (mc:LvM) (rows:List XS) (m:LvM) (rest:List LvM) (W:World) (u:List To):Prop where
 p:Ps W gp A c l u
 r:eLv.Own W w.heap.size v (rest.reverse++[mc])
 o0:eSt.Own W w.heap.size m.v rows
 o:∀ a∈rest,eSt.Own W w.heap.size a.v a.xs
 x:∀ a∈m::rest,xssOk W (fun g=>w.heap.size≤g∧¬ OwnB (m::rest) g) a.xs
 q:(m::rest).Pairwise Apart2
 g:w.grownBy W (some gp)
 n:gp < w.heap.size∧(∀ a∈m::rest,a.xs.length+u.length≤l.length)∧rest.length+u.length≤l.length
section
variable {w W Z:World} {gp:Nat} {A:Option Addr} {c:Nat} {l u u':List To} {v v9:Value} {mc m m2 a:LvM} {rows rows2:List XS} {rest:List LvM} {t:XS}
theorem BlZ.below (h:BlZ w gp A c l v mc rows m rest W u) (hb:Below W.heap.size W Z):BlZ w gp A c l v mc rows m rest Z u:=
 ⟨h.p.next hb,h.r.below hb,h.o0.below hb,fun a ha=>(h.o a ha).below hb,fun a ha=>xssOk.keep (fun g _ hg=>hb.block g hg.lt) (fun g _ hg=>hb.block g hg.lt) (fun _ q=>q) _ (h.x a ha),h.q,grown_trans h.g (grown_below hb _),h.n⟩
theorem BlZ.drew (h:BlZ w gp A c l v mc rows m rest W u):BlZ w gp A c l v mc rows m rest W.drew u:=h.below ((Below.refl _ W).drew)
theorem BlZ.step (h:BlZ w gp A c l v mc rows m rest W u) (hp:Ps Z gp A c l u') (hg:W.grownBy Z (some gp)) (hu:u'.length≤u.length):BlZ w gp A c l v mc rows m rest Z u':=by
 have hb:ButT 57 W Z:=ButT.grown hg fun k e=>by injection e with e;subst e;exact h.p.has
 have hn:=h.n;exact ⟨hp,h.r.but hb (by decide),h.o0.but hb (by decide),fun a ha=>(h.o a ha).but hb (by decide),fun a ha=>xssOk.keep (fun g _ ht=>hb g _ ht (by decide)) (fun g _ ht=>hb g _ ht (by decide)) (fun _ q=>q) _ (h.x a ha),h.q,grown_trans h.g hg,hn.1,fun a ha=>by have:=hn.2.1 a ha;omega,by omega⟩
theorem BlZ.turn (h:BlZ w gp A c l v mc rows m rest W u) (hg:W.grownBy Z m.v.ownBlock) (ho:eSt.Own Z w.heap.size m.v rows2):BlZ w gp A c l v mc rows2 m rest Z u:=by
 have hb:ButT 51 W Z:=ButT.grown hg fun k e=>h.o0.has k e
 have hz:w.heap.size≤W.heap.size:=h.g.size;have hB:Below w.heap.size W Z:=(Below.refl _ _).grown hg hz (fun k e=>(h.o0.lt k e).1);have hn:=h.n;refine ⟨h.p.below hB hn.1,h.r.but hb (by decide),ho,fun a ha=>(h.o a ha).keptB hg fun k e q=>?_,fun a ha=>xssOk.keep (fun g _ ht=>hb g _ ht (by decide)) (fun g q ht=>hg.block g ht.lt fun e=>q.2 ⟨m,by simp,e.symm⟩) (fun _ q=>q) _ (h.x a ha),h.q,grown_new h.g hB,hn⟩;exact (List.pairwise_cons.1 h.q).1 a ha k q e
theorem BlZ.add (h:BlZ w gp A c l v m m.xs m rest W u) (ht:t.Ok W (fun g=>w.heap.size≤g∧¬ OwnB (m::rest) g)) (hl:m.xs.length+1+u.length≤l.length) (hm:m2.xs=m.xs++[t]) (hg:W.grownBy Z m.v.ownBlock) (ho:eSt.Own Z w.heap.size m2.v rows) (hk:∀ k,m2.v.ownBlock=some k→m.v.ownBlock=some k∨W.heap.size≤k):BlZ w gp A c l v m rows m2 rest Z u:=by
 have hb:ButT 51 W Z:=ButT.grown hg fun k e=>h.o0.has k e
 have hz:w.heap.size≤W.heap.size:=h.g.size;have hB:Below w.heap.size W Z:=(Below.refl _ _).grown hg hz (fun k e=>(h.o0.lt k e).1);have hn:=h.n;have hown:∀ g,g < W.heap.size→¬ OwnB (m::rest) g→¬ OwnB (m2::rest) g:=fun g hgl hno ⟨a,ha,e⟩=>by
  rcases List.mem_cons.1 ha with rfl | ha
  · rcases hk g e with e2 | e2
    · exact hno ⟨m,by simp,e2⟩
    · omega
  · exact hno ⟨a,List.mem_cons_of_mem _ ha,e⟩
 have key:∀ ys:List XS,xssOk W (fun g=>w.heap.size≤g∧¬ OwnB (m::rest) g) ys→xssOk Z (fun g=>w.heap.size≤g∧¬ OwnB (m2::rest) g) ys:=fun ys hy=>
  xssOk.keep (P:=fun g=>(w.heap.size≤g∧¬ OwnB (m::rest) g)∧g < W.heap.size) (fun g _ ht=>hb g _ ht (by decide)) (fun g q ht=>hg.block g ht.lt fun e=>q.1.2 ⟨m,by simp,e.symm⟩) (fun g q=>⟨q.1.1,hown g q.2 q.1.2⟩) ys (xssOk.low ys hy)
 refine ⟨h.p.below hB hn.1,h.r.but hb (by decide),ho,fun a ha=>(h.o a ha).keptB hg fun k e q=>(List.pairwise_cons.1 h.q).1 a ha k q e,fun a ha=>?_,List.pairwise_cons.2 ⟨fun a ha k e q=>?_,(List.pairwise_cons.1 h.q).2⟩,grown_new h.g hB,hn.1,fun a ha=>?_,hn.2.2⟩
 · rcases List.mem_cons.1 ha with rfl | ha
   · rw [hm];refine key _ (xssOk.of fun y hy=>?_);rcases List.mem_append.1 hy with hy | hy
     · exact xssOk.all (h.x m (by simp)) y hy
     · rw [List.mem_singleton.1 hy];exact ht
   · exact key _ (h.x a (List.mem_cons_of_mem _ ha))
 · rcases hk k e with e2 | e2
   · exact (List.pairwise_cons.1 h.q).1 a ha k e2 q
   · have:=((h.o a ha).lt k q).2.1;omega
 · rcases List.mem_cons.1 ha with rfl | ha
   · rw [hm,nH,List.length_singleton];omega
   · exact hn.2.1 a (List.mem_cons_of_mem _ ha)
theorem BlZ.setLv {gv cv:Nat} (h:BlZ w gp A c l (.slice (some ⟨gv,0,none⟩) (rest.length+1) cv) mc rows m rest W u) (he:mc.el=m.el):BlZ w gp A c l (.slice (some ⟨gv,0,none⟩) (rest.length+1) cv) m rows m rest (W.setCell ⟨gv,rest.length*2,none⟩ m.v) u:=by
 have hn:=h.n;have hgv:=(h.r.lt gv rfl);have hb:ButT 124 W (W.setCell ⟨gv,rest.length*2,none⟩ m.v):=ButT.set (p:=⟨gv,rest.length*2,none⟩) hgv.2.2 _;have hB:Below w.heap.size W (W.setCell ⟨gv,rest.length*2,none⟩ m.v):=(Below.refl _ _).setCell (p:=⟨gv,rest.length*2,none⟩) hgv.1 _;have hr:eLv.Own (W.setCell ⟨gv,rest.length*2,none⟩ m.v) w.heap.size (.slice (some ⟨gv,0,none⟩) (rest.length+1) cv) (rest.reverse++[m]):=by
  have h1:=h.r;have hlr:rest.reverse.length=rest.length:=by simp
  rw [← hlr] at h1 ⊢;exact El.Own.setLast h1 0 m.v (by show [m.v,Value.bool mc.el]=[m.v,Value.bool m.el];rw [he])
 exact ⟨h.p.below hB hn.1,hr,h.o0.but hb (by decide),fun a ha=>(h.o a ha).but hb (by decide),fun a ha=>xssOk.keep (fun g _ ht=>hb g _ ht (by decide)) (fun g _ ht=>hb g _ ht (by decide)) (fun _ q=>q) _ (h.x a ha),h.q,grown_new h.g hB,hn⟩
theorem BlZ.push (h:BlZ w gp A c l v m m.xs m rest W u) (b:Bool) (hl:rest.length+1+u.length≤l.length) (hg:W.grownBy Z v.ownBlock) (ho:eLv.Own Z w.heap.size v9 ((m::rest).reverse++[⟨[],none,0,b⟩])):BlZ w gp A c l v9 ⟨[],none,0,b⟩ [] ⟨[],none,0,b⟩ (m::rest) Z u:=by
 have hb:ButT 124 W Z:=ButT.grown hg fun k e=>h.r.has k e
 have hz:w.heap.size≤W.heap.size:=h.g.size;have hB:Below w.heap.size W Z:=(Below.refl _ _).grown hg hz (fun k e=>(h.r.lt k e).1);have hn:=h.n;have hown:∀ g,¬ OwnB (m::rest) g→¬ OwnB (⟨[],none,0,b⟩::m::rest) g:=fun g hno ⟨a,ha,e⟩=>by
  rcases List.mem_cons.1 ha with rfl | ha
  · cases e
  · exact hno ⟨a,ha,e⟩
 refine ⟨h.p.below hB hn.1,ho,El.Own.nil _ _,fun a ha=>?_,fun a ha=>?_,List.pairwise_cons.2 ⟨fun a _ k e=>(by cases e),h.q⟩,grown_new h.g hB,hn.1,fun a ha=>?_,by rw [nF];omega⟩
 · rcases List.mem_cons.1 ha with rfl | ha
   · exact h.o0.but hb (by decide)
   · exact (h.o a ha).but hb (by decide)
 · rcases List.mem_cons.1 ha with rfl | ha
   · rw [xssOk];trivial
   · exact xssOk.keep (fun g _ ht=>hb g _ ht (by decide)) (fun g _ ht=>hb g _ ht (by decide)) (fun g q=>⟨q.1,hown g q.2⟩) _ (h.x a ha)
 · rcases List.mem_cons.1 ha with rfl | ha
   · show 0+u.length≤l.length;omega
   · exact hn.2.1 a ha
end
end Go.Proofs.Ytflhcdcifilfcaa

namespace Go.Proofs.Ytflhcdcifilfcaa
open Go Go.RowKit

def XS.put (b:Bool) (m:LvM):XS→XS
 | .mk kd ln nm fl cl ty kA kc ks bA bc bd eA ec el=>if b=true then .mk kd ln nm fl cl ty kA kc ks bA bc bd m.A m.c m.xs else .mk kd ln nm fl cl ty kA kc ks m.A m.c m.xs eA ec el
theorem XS.put_d (b:Bool) (m:LvM) (t:XS):(t.put b m).d=if b=true then t.d.setE (xssd m.xs) else t.d.setB (xssd m.xs):=by
 cases t;cases b
 · rfl
 · rfl
theorem XS.put_cs (b:Bool) (m:LvM) (t:XS):t.cs.set (if b=true then 10 else 9) m.v=(t.put b m).cs:=by
 cases t;cases b
 · rfl
 · rfl
theorem XS.cs_len (t:XS):t.cs.length=11:=eSt.len t
section
variable {w W Z:World} {gp:Nat} {A:Option Addr} {c:Nat} {l u u':List To} {v v9:Value} {mc m a:LvM} {rows ys:List XS} {o:List LvM} {t:XS} {P Q:Nat→Prop}
theorem xssd_snoc (l:List XS) (y:XS):xssd (l++[y])=xssd l++[y.d]:=by simp [xssd_map]
theorem XS.Ok.put (b:Bool) (ht:t.Ok W P) (hm:RowP eSt W P m.A m.c m.xs) (hx:xssOk W P m.xs):(t.put b m).Ok W P:=by
 obtain ⟨kd,ln,nm,fl,cl,ty,kA,kc,ks,bA,bc,bd,eA,ec,el⟩:=t;rw [XS.Ok] at ht;cases b
 · show XS.Ok W P (XS.mk kd ln nm fl cl ty kA kc ks m.A m.c m.xs eA ec el);rw [XS.Ok];exact ⟨⟨ht.1.1,hm,ht.1.2.2⟩,ht.2.1,hx,ht.2.2.2⟩
 · show XS.Ok W P (XS.mk kd ln nm fl cl ty kA kc ks bA bc bd m.A m.c m.xs);rw [XS.Ok];exact ⟨⟨ht.1.1,ht.1.2.1,hm⟩,ht.2.1,ht.2.2.1,hx⟩
def LvM.put (b:Bool) (m a:LvM) (ys:List XS) (t:XS):LvM:=⟨ys++[t.put b m],a.A,a.c,a.el⟩
theorem LvM.put_v (b:Bool) (ha:a.xs=ys++[t]):(LvM.put b m a ys t).v=a.v:=by
 unfold LvM.put LvM.v;rw [ha];simp
theorem BlZ.close (b:Bool) {gv cv ga ca:Nat} (h:BlZ w gp A c l (.slice (some ⟨gv,0,none⟩) (o.length+1+1) cv) m m.xs m (a::o) W u) (ha:a.xs=ys++[t]) (hv:a.v = .slice (some ⟨ga,0,none⟩) (ys.length+1) ca) :
 BlZ w gp A c l (.slice (some ⟨gv,0,none⟩) (o.length+1) cv) (LvM.put b m a ys t) (LvM.put b m a ys t).xs (LvM.put b m a ys t) o (W.setCell ⟨ga,ys.length*11+(if b=true then 10 else 9),none⟩ m.v) u:=by
 have hn:=h.n;have hav:=LvM.put_v (m:=m) b ha;have hoa:eSt.Own W w.heap.size (.slice (some ⟨ga,0,none⟩) (ys.length+1) ca) (ys++[t]):=by rw [← hv,← ha];exact h.o a (by simp)
 have hga:=hoa.lt ga rfl;have hb:ButT 51 W (W.setCell ⟨ga,ys.length*11+(if b=true then 10 else 9),none⟩ m.v):=ButT.set (p:=⟨ga,_,none⟩) hga.2.2 _;have hB:Below w.heap.size W (W.setCell ⟨ga,ys.length*11+(if b=true then 10 else 9),none⟩ m.v):=(Below.refl _ _).setCell (p:=⟨ga,_,none⟩) hga.1 _;have hg:W.grownBy (W.setCell ⟨ga,ys.length*11+(if b=true then 10 else 9),none⟩ m.v) (some ga):=grown_set _ _ _ _;have hr:eLv.Own W w.heap.size (.slice (some ⟨gv,0,none⟩) (o.length+1) cv) (o.reverse++[a]):=by
  have h1:=h.r;rw [List.reverse_cons] at h1;have h2:=h1.front
  rwa [show (o.reverse++[a]).length=o.length+1 by simp] at h2
 have hrow:eSt.Own (W.setCell ⟨ga,ys.length*11+(if b=true then 10 else 9),none⟩ m.v) w.heap.size (.slice (some ⟨ga,0,none⟩) (ys.length+1) ca) (ys++[t.put b m]):=El.Own.setLast hoa _ m.v (XS.put_cs b m t);have hq:=List.pairwise_cons.1 h.q;have hq2:=List.pairwise_cons.1 hq.2;have hoB:∀ g,¬ OwnB (m::a::o) g→¬ OwnB (LvM.put b m a ys t::o) g:=fun g hno ⟨d,hd,e⟩=>by
  rcases List.mem_cons.1 hd with rfl | hd
  · exact hno ⟨a,by simp,by rw [← hav];exact e⟩
  · exact hno ⟨d,by simp [hd],e⟩
 have keep:∀ zs:List XS,xssOk W (fun g=>w.heap.size≤g∧¬ OwnB (m::a::o) g) zs→xssOk (W.setCell ⟨ga,ys.length*11+(if b=true then 10 else 9),none⟩ m.v) (fun g=>w.heap.size≤g∧¬ OwnB (LvM.put b m a ys t::o) g) zs:=fun zs hz=>
  xssOk.keep (fun g _ ht=>hb g _ ht (by decide)) (fun g q ht=>hg.block g ht.lt fun e=>by
   injection e with e;subst e
   exact q.2 ⟨a,by simp,by rw [hv];rfl⟩) (fun g q=>⟨q.1,hoB g q.2⟩) zs hz
 obtain ⟨hA,hc,hlm⟩:m.xs.length≤m.c∧(m.A=none→m.c=0)∧eSt.LiesT W m.A m.xs:=by
  obtain ⟨A2,c2,e2,k1,k2,k3⟩:=h.o0.form;unfold LvM.v at e2;injection e2 with e2 _ e3;subst e2 e3;exact ⟨k1,k2,k3⟩
 have hrowP:RowP eSt (W.setCell ⟨ga,ys.length*11+(if b=true then 10 else 9),none⟩ m.v) (fun g=>w.heap.size≤g∧¬ OwnB (LvM.put b m a ys t::o) g) m.A m.c m.xs:=by
  have hm0:∀ k,m.v.ownBlock=some k→k≠ga∧w.heap.size≤k∧¬ OwnB (LvM.put b m a ys t::o) k:=fun k e=>by
   refine ⟨fun q=>?_,(h.o0.lt k e).1,fun ⟨d,hd,e2⟩=>?_⟩
   · subst q;exact hq.1 a (by simp) k e (by rw [hv];rfl)
   · rcases List.mem_cons.1 hd with rfl | hd
     · exact hq.1 a (by simp) k e (by rw [← hav];exact e2)
     · exact hq.1 d (by simp [hd]) k e e2
  have hblk:0 < m.xs.length→∀ d,m.A=some d→m.v.ownBlock=some d.block:=fun hl d e=>by
   obtain ⟨g9,c9,e9⟩:=El.Own.at0 h.o0 hl;have e8:=e9;unfold LvM.v at e9;injection e9 with e9;rw [e] at e9;injection e9 with e9;subst e9;rw [e8];rfl
  refine ⟨liesP_keep (P:=fun g=>g≠ga) hlm (fun hl d e=>(hm0 _ (hblk hl d e)).1) (fun g q _=>Below.heap_setCell W ⟨ga,_,none⟩ _ g q),hA,hc,fun hl d e=>(hm0 _ (hblk hl d e)).2⟩
 refine ⟨h.p.below hB hn.1,?_,?_,fun d hd=>(h.o d (by simp [hd])).keptB hg fun k e q=>?_,fun d hd=>?_,List.pairwise_cons.2 ⟨fun d hd k e=>?_,hq2.2⟩,grown_new h.g hB,hn.1,fun d hd=>?_,?_⟩
 · have h2:=hr.but hb (by decide);have e:eLv.f a=eLv.f (LvM.put b m a ys t):=by
    show [a.v,Value.bool a.el]=[(LvM.put b m a ys t).v,Value.bool a.el];rw [hav]
   unfold El.Own at h2 ⊢;simpa [List.flatMap_append,e] using h2
 · rw [hav,hv];exact hrow
 · injection q with q;subst q;exact hq2.1 d hd _ (by rw [hv];rfl) e
 · rcases List.mem_cons.1 hd with rfl | hd
   · show xssOk _ _ (ys++[t.put b m]);have hxa:=h.x a (by simp);rw [ha] at hxa;(refine xssOk.of fun y hy=>?_);rcases List.mem_append.1 hy with hy | hy
     · exact xssOk.all (keep ys (xssOk.of fun z hz=>xssOk.all hxa z (by simp [hz]))) y hy
     · rw [List.mem_singleton.1 hy];exact XS.Ok.put b (xssOk.all (keep [t] (xssOk.of fun z hz=>xssOk.all hxa z (by simp at hz;simp [hz]))) t (by simp)) hrowP (keep _ (h.x m (by simp)))
   · exact keep _ (h.x d (by simp [hd]))
 · rw [hav] at e;exact hq2.1 d hd k e
 · rcases List.mem_cons.1 hd with rfl | hd
   · have:=hn.2.1 a (by simp);rw [ha] at this;simpa [LvM.put] using this
   · exact hn.2.1 d (by simp [hd])
 · have:=hn.2.2;rw [nF] at this;omega
end
end Go.Proofs.Ytflhcdcifilfcaa
