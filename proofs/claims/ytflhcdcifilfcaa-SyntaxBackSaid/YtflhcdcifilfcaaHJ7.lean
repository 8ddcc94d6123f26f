/-
  Merged for a claim: SYP, SYQ.
-/
import Derived.Test.YtflhcdcifilfcaaHJ6
namespace Go.Proofs.Ytflhcdcifilfcaa
open Go Go.RowKit

def Stk (W:World) (P:Nat→Prop):List HM→List Ha→Prop
 | [],[]=>True
 | m::rs,h::o=>m.Is h W P∧Stk W P rs o
 | _,_=>False
theorem HM.Is.keep {m:HM} {h:Ha} {W W':World} {P Q:Nat→Prop} (hi:m.Is h W P) (hk:∀ g,P g→HasT W g 53→W'.heap[g]? = W.heap[g]?) (hm:∀ g,P g→Q g):m.Is h W' Q:=
 ⟨hi.d,hi.b,hi.e,hi.f,XT.Ok.keep hk hm _ hi.o⟩
theorem Stk.keep {W W':World} {P Q:Nat→Prop} (hk:∀ g,P g→HasT W g 53→W'.heap[g]? = W.heap[g]?) (hm:∀ g,P g→Q g):∀ {rs:List HM} {o:List Ha},Stk W P rs o→Stk W' Q rs o
 | [],[],_=>trivial
 | _::_,_::_,h=>⟨h.1.keep hk hm,Stk.keep hk hm h.2⟩
 | [],_::_,h=>h
 | _::_,[],h=>h
theorem Stk.len {W:World} {P:Nat→Prop}:∀ {rs:List HM} {o:List Ha},Stk W P rs o→rs.length=o.length
 | [],[],_=>rfl
 | _::_,_::_,h=>congrArg (· + 1) (Stk.len h.2)
 | [],_::_,h=>h.elim
 | _::_,[],h=>h.elim
theorem El.LiesT.front {α:Type} {K:El α} {w:World} {A:Option Addr} {xs ys:List α} (h:K.LiesT w A (xs++ys)):K.LiesT w A xs:=fun hl=>by
 obtain ⟨g,o,e,hg,hc⟩:=h (by rw [nH];omega);refine ⟨g,o,e,hg,fun j hj f u hu=>hc j (by rw [nH];omega) f u ?_⟩;rw [List.getElem_append_left hj];exact hu
structure EnW (w:World) (gp:Nat) (A:Option Addr) (c:Nat) (l:List To) (P:Nat→Prop) (Ao:Option Addr) (gb gr:Nat) (rs:List HM) (o:List Ha) (z:XT) (W:World) (u:List To):Prop where
 p:Ps W gp A c l u
 r:eH.LiesT W Ao rs.reverse
 s:Stk W P rs o
 x:z.Ok W P
 b:CAt W gb 53 z.cs
 a:CAt W gr 53 zE
 g:w.grownBy W (some gp)
 n:gp < w.heap.size∧w.heap.size≤gb∧w.heap.size≤gr∧gb≠gr
 q:(∀ g,P g→g≠gb∧g≠gr)∧∀ g,gb < g→gr < g→P g
section
variable {w W W':World} {gp:Nat} {A:Option Addr} {c:Nat} {l u u':List To} {P:Nat→Prop} {Ao:Option Addr} {gb gr:Nat} {rs:List HM} {o:List Ha} {z:XT}
theorem EnW.below (h:EnW w gp A c l P Ao gb gr rs o z W u) (hb:Below W.heap.size W W'):EnW w gp A c l P Ao gb gr rs o z W' u:=
 ⟨h.p.next hb,h.r.below hb,Stk.keep (fun g _ hg=>hb.block g hg.lt) (fun _ q=>q) h.s,h.x.below hb,h.b.below hb h.b.lt,h.a.below hb h.a.lt,grown_trans h.g (grown_below hb _),h.n,h.q⟩
theorem EnW.drew (h:EnW w gp A c l P Ao gb gr rs o z W u):EnW w gp A c l P Ao gb gr rs o z W.drew u:=h.below ((Below.refl _ W).drew)
theorem EnW.step (h:EnW w gp A c l P Ao gb gr rs o z W u) (hp:Ps W' gp A c l u') (hg:W.grownBy W' (some gp)):EnW w gp A c l P Ao gb gr rs o z W' u':=by
 have hb:ButT 57 W W':=ButT.grown hg fun k e=>by injection e with e;subst e;exact h.p.has
 have hk:∀ g,P g→HasT W g 53→W'.heap[g]? = W.heap[g]? := fun g _ ht=>hb g _ ht (by decide)
 exact ⟨hp,h.r.but hb (by decide),Stk.keep hk (fun _ q=>q) h.s,XT.Ok.keep hk (fun _ q=>q) z h.x,(hb gb _ ⟨_,_,h.b⟩ (by decide)).trans h.b,(hb gr _ ⟨_,_,h.a⟩ (by decide)).trans h.a,grown_trans h.g hg,h.n,h.q⟩
theorem EnW.pop {m:HM} {hh:Ha} {y:XT} (h:EnW w gp A c l P Ao gb gr (m::rs) (hh::o) z W u) (hy:y.Ok W P):EnW w gp A c l P Ao gb gr rs o y (setE W gb y) u:=by
 have hb:=setE_below (W:=W) (B:=w.heap.size) (g:=gb) y h.n.2.1;have hk:∀ g,P g→HasT W g 53→(setE W gb y).heap[g]? = W.heap[g]? := fun g hp _=>setE_heap y (h.q.1 g hp).1
 have hr:eH.LiesT W Ao rs.reverse:=by
  have:=h.r;rw [List.reverse_cons] at this;exact this.front
 refine ⟨h.p.below hb h.n.1,hr.kept fun k ht=>setE_heap y (fun e=>?_),Stk.keep hk (fun _ q=>q) h.s.2,XT.Ok.keep hk (fun _ q=>q) y hy,?_,(setE_heap y (fun e=>h.n.2.2.2 e.symm)).trans h.a,grown_new h.g hb,h.n,h.q⟩
 · subst e;have:=ht.one ⟨_,_,h.b⟩;exact absurd this (by decide)
 · obtain ⟨k1,k2,k3,k4,k5,k6,k7,k8⟩:=z;exact setE_at y h.b
theorem EnW.done (h:EnW w gp A c l P Ao gb gr rs o z W u):Ps (setE W gr z) gp A c l u∧eH.LiesT (setE W gr z) Ao rs.reverse∧Stk (setE W gr z) P rs o∧z.Ok (setE W gr z) P∧w.grownBy (setE W gr z) (some gp)∧CAt (setE W gr z) gr 53 z.cs:=by
 have hb:=setE_below (W:=W) (B:=w.heap.size) (g:=gr) z h.n.2.2.1;have hk:∀ g,P g→HasT W g 53→(setE W gr z).heap[g]? = W.heap[g]? := fun g hp _=>setE_heap z (h.q.1 g hp).2
 refine ⟨h.p.below hb h.n.1,h.r.kept fun k ht=>setE_heap z (fun e=>?_),Stk.keep hk (fun _ q=>q) h.s,XT.Ok.keep hk (fun _ q=>q) z h.x,grown_new h.g hb,setE_at z h.a⟩;subst e;have:=ht.one ⟨_,_,h.a⟩;exact absurd this (by decide)
end
def lnV:Value→Nat | .slice _ n _=>n | _=>0
def EndR (w:World) (gp:Nat) (A:Option Addr) (c:Nat) (l:List To) (P:Nat→Prop) (Ao:Option Addr) (co:Nat) (rs0:List HM) (q:Ex×List Ha×List To) (e:Ending) (w':World):Prop:=
 ∃ (z:XT) (rs:List HM),e = .returned (.tuple #[xV z,.slice Ao rs.length co])∧rs <:+ rs0∧z.d=q.1∧eH.LiesT w' Ao rs.reverse∧Stk w' P rs q.2.1∧z.Ok w' P∧Ps w' gp A c l q.2.2∧w.grownBy w' (some gp)
theorem exp_tmp {fn:Func} {p q:Tmp} (h:fn.results=#[.cell p 53,.tmp q]) {tmps:Array Value} {w:World} {g:Nat} (hp:tmps.getD p undef = .pointer (some ⟨g,0,none⟩)) {v:Value} (hq:tmps.getD q undef=v)
 {t:XT} (hg:CAt w g 53 t.cs):(results fn tmps).run Try.prog w = .ok (.tuple #[xV t,v]) w:=by
 subst hq;cases t;exact res_row_tmp h tmps w g _ _ _ _ hp hg Try.underlying53 rfl exp_size
theorem back_end {fn:Func} {w W:World} {gp c co gb gr:Nat} {A Ao:Option Addr} {l u:List To} {P:Nat→Prop} {rs rs0:List HM} {o:List Ha} {z:XT} (hf:fn.results=#[.cell 6 53,.tmp 7]) {tmps:Array Value} (hp:tmps.getD 6 undef = .pointer (some ⟨gr,0,none⟩)) (hq:tmps.getD 7 undef = .slice Ao rs.length co)
 (h:EnW w gp A c l P Ao gb gr rs o z W u) (hsf:rs <:+ rs0) (q:Ex×List Ha×List To) (hr:q=(z.d,o,u)) :
 bodyPost Try.prog fn (EndR w gp A c l P Ao co rs0 q) .ret { tmps:=tmps,defers:=[] } (setE W gr z):=by
 subst hr;obtain ⟨h1,h2,h3,h4,h5,h6⟩:=h.done;exact bodyPost_ret (exp_tmp hf hp hq h6) rfl ⟨z,rs,rfl,hsf,rfl,h2,h3,h4,h1,h5⟩
section
variable {w:World} {gp:Nat} {A:Option Addr} {c:Nat} {l u:List To}
set_option maxRecDepth 100000 in
set_option maxHeartbeats 8000000 in
theorem end_any (hP:Ps w gp A c l u) (Q:Nat→Prop) (hQ:∀ g,Q g→g < w.heap.size) (Ao:Option Addr) (co:Nat) (rs:List HM) (o:List Ha) (x:XT) (hr:eH.LiesT w Ao rs.reverse) (hs:Stk w Q rs o) (hx:x.Ok w Q) (hco:rs.length≤co) (hn:rs.length≤1000000) :
 Calls Try.prog 92 #[.pointer (some ⟨gp,0,none⟩),.slice Ao rs.length co,xV x] w (EndR w gp A c l (fun g=>Q g∨w.heap.size+1 < g) Ao co rs (endsL o x.d u)):=by
 obtain ⟨P,hP'⟩:∃ P:Nat→Prop,(fun g=>Q g∨w.heap.size+1 < g)=P:=⟨_,rfl⟩;have hup:∀ g,Q g→P g:=fun g q=>by rw [← hP'];exact .inl q
 rw [hP'];obtain ⟨r,hr9⟩:∃ r,endsL o x.d u=r:=⟨_,rfl⟩;rw [hr9];have HR:=h_ hr9;have hb0:=below_al2 w (.cells x.cs.toArray 53) (.cells #[.int .u8 0,.int .i64 0,.string ⟨#[]⟩,.string ⟨#[]⟩,.string ⟨#[]⟩,.slice none 0 0] 53);have hq1:∀ g,P g→g≠w.heap.size∧g≠w.heap.size+1:=fun g hg=>by
  rw [← hP'] at hg;rcases hg with hg | hg
  · have:=hQ g hg;omega
  · omega
 have hq2:∀ g,w.heap.size < g→w.heap.size+1 < g→P g:=fun g _ h2=>by
  rw [← hP'];exact .inr h2
 have H0:=h_ (show EnW w gp A c l P Ao w.heap.size (w.heap.size+1) rs o x ((w.alloc (.cells x.cs.toArray 53)).alloc (.cells #[.int .u8 0,.int .i64 0,.string ⟨#[]⟩,.string ⟨#[]⟩,.string ⟨#[]⟩,.slice none 0 0] 53)) u from
  ⟨hP.next hb0,hr.below hb0,Stk.keep (fun g _ hg=>hb0.block g hg.lt) hup hs,XT.Ok.keep (fun g _ hg=>hb0.block g hg.lt) hup x hx,
   (Below.heap_alloc _ _ w.heap.size (by simp)).trans (heap_alloc_new w _),new_at _ _ (by simp) _,grown_below hb0 _,⟨hP.lt,Nat.le_refl _,Nat.le_succ _,by omega⟩,
   ⟨hq1,hq2⟩⟩)
 clear hP hQ hr hs hx hr9 hb0 hP' hup hq1 hq2;obtain ⟨k0,n0,m0,f0,o0,A0,c0,ks0⟩:=x;unfold xV XT.cs;unfold XT.cs at H0;go_enter Try.func92,Try.ntmps92;go_wp2_with fail
 go_loopw [1] (fun ov wr=>∃ (rs':List HM) (o':List Ha) (z:XT) (u':List To),ov = .slice Ao rs'.length co∧rs'.length≤rs.length∧Hid (rs' <:+ rs)∧Hid (endsL o' z.d u'=r)∧Hid (EnW w gp A c l P Ao w.heap.size (w.heap.size+1) rs' o' z wr u')) (fun ov _=>lnV ov)
 case atStart=>exact ⟨rs,o,_,u,rfl,Nat.le_refl _,List.suffix_refl _,HR,H0⟩
 case round=>
  obtain ⟨rs',o',z,u',rfl,hle,hsf,hE,hW⟩:=hrel;clear H0 HR;have hsl:=Stk.len hW.out.s;rcases rs' with _ | ⟨m,rs2⟩
  · obtain rfl:o'=[]:=List.eq_nil_of_length_eq_zero hsl.symm;have HE:=h_ (show r=(z.d,[],u') from hE.out.symm);obtain ⟨k1,n1,m1,f1,o1,A1,c1,ks1⟩:=z;have hb:=hW.out.b;have ha:=hW.out.a;unfold XT.cs at hb;unfold zE at ha;have xb0:=hb.cell (j:=0) (by simp);have xa0:=ha.cell (j:=0) (by simp);have xaf0:=ha.frozen 0;have xb1:=hb.cell (j:=1) (by simp);have xa1:=ha.cell (j:=1) (by simp);have xaf1:=ha.frozen 1;have xb2:=hb.cell (j:=2) (by simp);have xa2:=ha.cell (j:=2) (by simp);have xaf2:=ha.frozen 2;have xb3:=hb.cell (j:=3) (by simp);have xa3:=ha.cell (j:=3) (by simp);have xaf3:=ha.frozen 3;have xb4:=hb.cell (j:=4) (by simp);have xa4:=ha.cell (j:=4) (by simp);have xaf4:=ha.frozen 4;have xb5:=hb.cell (j:=5) (by simp);have xa5:=ha.cell (j:=5) (by simp);have xaf5:=ha.frozen 5;simp only [nD,nE] at xb0 xb1 xb2 xb3 xb4 xb5 xa0 xa1 xa2 xa3 xa4 xa5;clear hb ha;simp only [nG];clear hE hsl;(go_wp2_with fail);exact back_end rfl rfl rfl hW.out hsf.out r HE.out
  · rcases o' with _ | ⟨hh,o2⟩
    · exact absurd hsl (by simp)
    obtain ⟨⟨k2,n2,m2,f2,q2,A2,c2,ks2⟩,b2,en2⟩:=m;have hrr:=hW.out.r;rw [List.reverse_cons] at hrr;obtain ⟨g,off,rfl,hg,hcell⟩:=hrr.lies.at_ (j:=rs2.length) (by simp);(have hem:(rs2.reverse++[(⟨.mk k2 n2 m2 f2 q2 A2 c2 ks2,b2,en2⟩:HM)])[rs2.length]'(by simp)=⟨.mk k2 n2 m2 f2 q2 A2 c2 ks2,b2,en2⟩:=by simp);rw [hem] at hcell;have d0:=hcell 0 _ rfl;have d1:=hcell 1 _ rfl;have d2:=hcell 2 _ rfl;have d3:=hcell 3 _ rfl;have d4:=hcell 4 _ rfl;have d5:=hcell 5 _ rfl;have d6:=hcell 6 _ rfl;have d7:=hcell 7 _ rfl;simp only [Nat.add_zero,show eH.sz=8 from rfl] at d0 d1 d2 d3 d4 d5 d6 d7;have HEN:=h_ (ends_any hW.out.p ⟨.mk k2 n2 m2 f2 q2 A2 c2 ks2,b2,en2⟩ hh hW.out.s.1.b hW.out.s.1.e);unfold hV HM.cs XT.cs at HEN;simp only [nF] at hle ⊢;clear hcell hrr hem hsl;(go_wp2_with fail);refine HEN.out.mono ?_;rintro e w2 ⟨rfl,hp2,hg2⟩;cases he:hh.ends u'
    · rw [he,if_neg (by decide)] at hp2;have KQ:=h_ (hW.out.step hp2 hg2);have HE:=h_ (show r=(z.d,hh::o2,u') by rw [← hE.out,endsL,if_neg (by rw [he];decide)]);obtain ⟨k1,n1,m1,f1,o1,A1,c1,ks1⟩:=z;have hb:=KQ.out.b;have ha:=KQ.out.a;unfold XT.cs at hb;unfold zE at ha;have xb0:=hb.cell (j:=0) (by simp);have xa0:=ha.cell (j:=0) (by simp);have xaf0:=ha.frozen 0;have xb1:=hb.cell (j:=1) (by simp);have xa1:=ha.cell (j:=1) (by simp);have xaf1:=ha.frozen 1;have xb2:=hb.cell (j:=2) (by simp);have xa2:=ha.cell (j:=2) (by simp);have xaf2:=ha.frozen 2;have xb3:=hb.cell (j:=3) (by simp);have xa3:=ha.cell (j:=3) (by simp);have xaf3:=ha.frozen 3;have xb4:=hb.cell (j:=4) (by simp);have xa4:=ha.cell (j:=4) (by simp);have xaf4:=ha.frozen 4;have xb5:=hb.cell (j:=5) (by simp);have xa5:=ha.cell (j:=5) (by simp);have xaf5:=ha.frozen 5;simp only [nD,nE] at xb0 xb1 xb2 xb3 xb4 xb5 xa0 xa1 xa2 xa3 xa4 xa5;clear hb ha;clear hE hp2 hg2 HEN hW d0 d1 d2 d3 d4 d5 d6 d7;(go_wp2_with fail);exact back_end (rs:=⟨.mk k2 n2 m2 f2 q2 A2 c2 ks2,b2,en2⟩::rs2) rfl rfl rfl KQ.out hsf.out r HE.out
    · rw [he,if_pos rfl] at hp2;have KQ:=h_ (hW.out.step hp2 hg2);have HE:=h_ (show endsL o2 (hh.fin z.d) (hh.rest u')=r by rw [← hE.out,endsL,if_pos he]);have HWI:=h_ (with_any ⟨.mk k2 n2 m2 f2 q2 A2 c2 ks2,b2,en2⟩ hh P z w2.drew KQ.out.drew.s.1 KQ.out.drew.x);have hrr:=KQ.out.r;rw [List.reverse_cons] at hrr;obtain ⟨g9,off9,e9,hg9,hcell⟩:=hrr.lies.at_ (j:=rs2.length) (by simp);cases e9;(have hem:(rs2.reverse++[(⟨.mk k2 n2 m2 f2 q2 A2 c2 ks2,b2,en2⟩:HM)])[rs2.length]'(by simp)=⟨.mk k2 n2 m2 f2 q2 A2 c2 ks2,b2,en2⟩:=by simp);rw [hem] at hcell;clear hE hp2 hg2 HEN hW d0 d1 d2 d3 d4 d5 d6 d7;have d0:=hcell 0 _ rfl;have d1:=hcell 1 _ rfl;have d2:=hcell 2 _ rfl;have d3:=hcell 3 _ rfl;have d4:=hcell 4 _ rfl;have d5:=hcell 5 _ rfl;have d6:=hcell 6 _ rfl;have d7:=hcell 7 _ rfl;simp only [Nat.add_zero,show eH.sz=8 from rfl] at d0 d1 d2 d3 d4 d5 d6 d7;clear hcell hrr hem;have hgne:g≠w.heap.size:=by
       intro e;obtain ⟨g8,o8,e8,ht8,_⟩:=KQ.out.r (by simp);cases e8;subst e;exact absurd (ht8.one ⟨_,_,KQ.out.b⟩) (by decide)
      obtain ⟨k1,n1,m1,f1,o1,A1,c1,ks1⟩:=z;unfold hV HM.cs xV XT.cs at HWI;have hb:=KQ.out.b;have ha:=KQ.out.a;unfold XT.cs at hb;unfold zE at ha;have xb0:=hb.cell (j:=0) (by simp);have xa0:=ha.cell (j:=0) (by simp);have xaf0:=ha.frozen 0;have xb1:=hb.cell (j:=1) (by simp);have xa1:=ha.cell (j:=1) (by simp);have xaf1:=ha.frozen 1;have xb2:=hb.cell (j:=2) (by simp);have xa2:=ha.cell (j:=2) (by simp);have xaf2:=ha.frozen 2;have xb3:=hb.cell (j:=3) (by simp);have xa3:=ha.cell (j:=3) (by simp);have xaf3:=ha.frozen 3;have xb4:=hb.cell (j:=4) (by simp);have xa4:=ha.cell (j:=4) (by simp);have xaf4:=ha.frozen 4;have xb5:=hb.cell (j:=5) (by simp);have xa5:=ha.cell (j:=5) (by simp);have xaf5:=ha.frozen 5;simp only [nD,nE] at xb0 xb1 xb2 xb3 xb4 xb5 xa0 xa1 xa2 xa3 xa4 xa5;clear hb ha;have hw1:IntKind.i64.wrap ((rs2.length:Nat):Int)=(rs2.length:Int):=IntWalk.i64_in _ (by omega);(have hw2:0≤((rs2.length:Nat):Int)∧((rs2.length:Nat):Int) < (rs2.length:Int)+1:=by omega);(go_wp2_with fail);refine wp_region_held_drew (S:=fun W9=>(W9.cell? ⟨g,off+rs2.length*8,none⟩=some (.int .u8 k2)∧W9.cell? ⟨g,off+rs2.length*8+1,none⟩=some (.int .i64 n2)∧W9.cell? ⟨g,off+rs2.length*8+2,none⟩=some (.string (str m2))∧W9.cell? ⟨g,off+rs2.length*8+3,none⟩=some (.string (str f2))∧W9.cell? ⟨g,off+rs2.length*8+4,none⟩=some (.string (str q2))∧W9.cell? ⟨g,off+rs2.length*8+5,none⟩=some (.slice A2 ks2.length c2)∧W9.cell? ⟨g,off+rs2.length*8+6,none⟩=some (.int .i64 b2)∧W9.cell? ⟨g,off+rs2.length*8+7,none⟩=some (.string (str en2)))) (by kernel_rfl) (⟨d0,d1,d2,d3,d4,d5,d6,d7⟩) (fun hH=>?_);refine heldTake (i:=0) (d:=some 21) (v:=?_) rfl rfl (by kernel_rfl) (by kernel_rfl) (by kernel_rfl) (fun _ _ _ h=>h) (by kernel_rfl) ?hyq_1 (by assumption) ?restq_1;(case hyq_1=>(intro W9 hSw;(try dsimp only at hSw);go_simp;try (with_reducible rfl)));(try simp only [Act.put,nA,nB,nC]);refine heldTake (i:=1) (d:=some 22) (v:=?_) rfl rfl (by kernel_rfl) (by kernel_rfl) (by kernel_rfl) (fun _ _ _ h=>h) (by kernel_rfl) ?hyq_2 (by assumption) ?restq_2;(case hyq_2=>(intro W9 hSw;(try dsimp only at hSw);go_simp;try (with_reducible rfl)));(try simp only [Act.put,nA,nB,nC]);refine heldTake (i:=2) (d:=some 23) (v:=?_) rfl rfl (by kernel_rfl) (by kernel_rfl) (by kernel_rfl) (fun _ _ _ h=>h) (by kernel_rfl) ?hyq_3 (by assumption) ?restq_3;(case hyq_3=>(intro W9 hSw;(try dsimp only at hSw);go_simp;try (with_reducible rfl)));(try simp only [Act.put,nA,nB,nC]);refine heldTake (i:=3) (d:=some 24) (v:=?_) rfl rfl (by kernel_rfl) (by kernel_rfl) (by kernel_rfl) (fun _ _ _ h=>h) (by kernel_rfl) ?hyq_4 (by assumption) ?restq_4;(case hyq_4=>(intro W9 hSw;(try dsimp only at hSw);go_simp;try (with_reducible rfl)));(try simp only [Act.put,nA,nB,nC]);refine heldTake (i:=4) (d:=some 25) (v:=?_) rfl rfl (by kernel_rfl) (by kernel_rfl) (by kernel_rfl) (fun _ _ _ h=>h) (by kernel_rfl) ?hyq_5 (by assumption) ?restq_5;(case hyq_5=>(intro W9 hSw;(try dsimp only at hSw);go_simp;try (with_reducible rfl)));(try simp only [Act.put,nA,nB,nC]);refine heldTake (i:=5) (d:=some 26) (v:=?_) rfl rfl (by kernel_rfl) (by kernel_rfl) (by kernel_rfl) (fun _ _ _ h=>h) (by kernel_rfl) ?hyq_6 (by assumption) ?restq_6;(case hyq_6=>(intro W9 hSw;(try dsimp only at hSw);go_simp;try (with_reducible rfl)));(try simp only [Act.put,nA,nB,nC]);refine nM (i:=6) (by kernel_rfl) rfl fun K hK=>?_;go_simp;refine hK.out _ _ hH (fun hH=>?_);refine nM (i:=7) (by kernel_rfl) rfl fun K hK=>?_;go_simp;(go_at_call 97);refine HWI.out.mono ?_;rintro e9 X ⟨y,rfl,hyd,hyo,hbX⟩;have K2:=h_ (KQ.out.drew.below hbX);have HYD:=h_ hyd;have hyo2:=hyo.up (Q:=P) (fun g hg=>by rcases hg with hg | hg;exact hg;exact KQ.out.q.2 g (Nat.lt_of_lt_of_le KQ.out.b.lt hg) (Nat.lt_of_lt_of_le KQ.out.a.lt hg));have hbb:=K2.out.b;unfold XT.cs at hbb;have xc0:=hbb.cell (j:=0) (by simp);have xcf0:=hbb.frozen 0;have xc1:=hbb.cell (j:=1) (by simp);have xcf1:=hbb.frozen 1;have xc2:=hbb.cell (j:=2) (by simp);have xcf2:=hbb.frozen 2;have xc3:=hbb.cell (j:=3) (by simp);have xcf3:=hbb.frozen 3;have xc4:=hbb.cell (j:=4) (by simp);have xcf4:=hbb.frozen 4;have xc5:=hbb.cell (j:=5) (by simp);have xcf5:=hbb.frozen 5;simp only [nD,nE] at xc0 xc1 xc2 xc3 xc4 xc5;have K3:=h_ (K2.out.pop hyo2);have hSX:(X.cell? ⟨g,off+rs2.length*8,none⟩=some (.int .u8 k2)∧X.cell? ⟨g,off+rs2.length*8+1,none⟩=some (.int .i64 n2)∧X.cell? ⟨g,off+rs2.length*8+2,none⟩=some (.string (str m2))∧X.cell? ⟨g,off+rs2.length*8+3,none⟩=some (.string (str f2))∧X.cell? ⟨g,off+rs2.length*8+4,none⟩=some (.string (str q2))∧X.cell? ⟨g,off+rs2.length*8+5,none⟩=some (.slice A2 ks2.length c2)∧X.cell? ⟨g,off+rs2.length*8+6,none⟩=some (.int .i64 b2)∧X.cell? ⟨g,off+rs2.length*8+7,none⟩=some (.string (str en2))):=⟨(hbX.cell (p:=⟨g,off+rs2.length*8,none⟩) hg9).trans d0,(hbX.cell (p:=⟨g,off+rs2.length*8+1,none⟩) hg9).trans d1,(hbX.cell (p:=⟨g,off+rs2.length*8+2,none⟩) hg9).trans d2,(hbX.cell (p:=⟨g,off+rs2.length*8+3,none⟩) hg9).trans d3,(hbX.cell (p:=⟨g,off+rs2.length*8+4,none⟩) hg9).trans d4,(hbX.cell (p:=⟨g,off+rs2.length*8+5,none⟩) hg9).trans d5,(hbX.cell (p:=⟨g,off+rs2.length*8+6,none⟩) hg9).trans d6,(hbX.cell (p:=⟨g,off+rs2.length*8+7,none⟩) hg9).trans d7⟩;clear hbb hyo hyo2 hyd;(go_wp2_with fail);refine hK.out _ _ hSX (fun hH=>?_);refine nM (i:=8) (by kernel_rfl) rfl fun K hK=>?_;obtain ⟨y0,y1,y2,y3,y4,yA,yc,yk⟩:=y;have hSZ:((setE X w.heap.size (.mk y0 y1 y2 y3 y4 yA yc yk)).cell? ⟨g,off+rs2.length*8,none⟩=some (.int .u8 k2)∧(setE X w.heap.size (.mk y0 y1 y2 y3 y4 yA yc yk)).cell? ⟨g,off+rs2.length*8+1,none⟩=some (.int .i64 n2)∧(setE X w.heap.size (.mk y0 y1 y2 y3 y4 yA yc yk)).cell? ⟨g,off+rs2.length*8+2,none⟩=some (.string (str m2))∧(setE X w.heap.size (.mk y0 y1 y2 y3 y4 yA yc yk)).cell? ⟨g,off+rs2.length*8+3,none⟩=some (.string (str f2))∧(setE X w.heap.size (.mk y0 y1 y2 y3 y4 yA yc yk)).cell? ⟨g,off+rs2.length*8+4,none⟩=some (.string (str q2))∧(setE X w.heap.size (.mk y0 y1 y2 y3 y4 yA yc yk)).cell? ⟨g,off+rs2.length*8+5,none⟩=some (.slice A2 ks2.length c2)∧(setE X w.heap.size (.mk y0 y1 y2 y3 y4 yA yc yk)).cell? ⟨g,off+rs2.length*8+6,none⟩=some (.int .i64 b2)∧(setE X w.heap.size (.mk y0 y1 y2 y3 y4 yA yc yk)).cell? ⟨g,off+rs2.length*8+7,none⟩=some (.string (str en2))):=⟨(World.cell?_of_block (setE_heap _ hgne)).trans hSX.1,(World.cell?_of_block (setE_heap _ hgne)).trans hSX.2.1,(World.cell?_of_block (setE_heap _ hgne)).trans hSX.2.2.1,(World.cell?_of_block (setE_heap _ hgne)).trans hSX.2.2.2.1,(World.cell?_of_block (setE_heap _ hgne)).trans hSX.2.2.2.2.1,(World.cell?_of_block (setE_heap _ hgne)).trans hSX.2.2.2.2.2.1,(World.cell?_of_block (setE_heap _ hgne)).trans hSX.2.2.2.2.2.2.1,(World.cell?_of_block (setE_heap _ hgne)).trans hSX.2.2.2.2.2.2.2⟩
      simp only [xV,XT.cs];go_simp;refine hK.out _ _ hSZ (fun hH=>?_);refine wpAnyH_done (by kernel_rfl) ?_ _;go_wp2_with fail
      go_roundw
      (case rel=>exact ⟨rs2,o2,.mk y0 y1 y2 y3 y4 yA yc yk,hh.rest u',rfl,by omega,(List.suffix_cons _ _).trans hsf.out,by rw [HYD.out];exact HE,K3⟩);case measure=>simp [lnV]
end
end Go.Proofs.Ytflhcdcifilfcaa

namespace Go.Proofs.Ytflhcdcifilfcaa
open Go Go.RowKit

theorem El.Own.front {α:Type} {K:El α} {w:World} {B:Nat} {A:Option Addr} {n c:Nat} {xs ys:List α} (h:K.Own w B (.slice A n c) (xs++ys)):K.Own w B (.slice A xs.length c) xs:=by
 have h1:=h.1;rcases h.2 with ⟨e,h0⟩ | ⟨g,cap,cur,e,hB,hh,hn,hm,hs,ht⟩
 · injection e with e1 e2 e3;subst e1 e3;have h9:=El.flat_len K (xs++ys);have:xs=[]:=by
    have h8:(xs++ys).length=0:=h0;rw [nH] at h8;exact List.eq_nil_of_length_eq_zero (by omega)
   subst this;exact El.Own.nil w B
 · injection e with e1 e2 e3;subst e1 e3;refine ⟨El.flat_len K xs,.inr ⟨g,c,cur,rfl,hB,hh,?_,hm,hs,?_⟩⟩
   · have h8:(xs++ys).length≤c:=hn;rw [nH] at h8;omega
   · rw [List.flatMap_append] at ht;have h7:cur.toList.take (xs.length*K.sz)=(cur.toList.take ((xs++ys).length*K.sz)).take (xs.length*K.sz):=by
      rw [List.take_take,Nat.min_eq_left (Nat.mul_le_mul_right _ (by rw [nH];omega))]
     rw [h7,ht,← El.flat_len K xs,List.take_left]
theorem half_info:(Try.prog.info? 139).map (fun i=>(i.zero,i.size,i.bytes))=some (some (.agg #[.int .u8 0,.int .i64 0,.string ⟨#[]⟩,.string ⟨#[]⟩,.string ⟨#[]⟩,.slice none 0 0,.int .i64 0,.string ⟨#[]⟩]),8,112):=by kernel_rfl
structure ExW (w:World) (gp:Nat) (A:Option Addr) (c:Nat) (l:List To) (v:Value) (rs:List HM) (o:List Ha) (W:World) (u:List To):Prop where
 p:Ps W gp A c l u
 r:eH.Own W w.heap.size v rs.reverse
 s:Stk W (fun g=>w.heap.size < g) rs o
 a:CAt W w.heap.size 53 zE
 g:w.grownBy W (some gp)
 n:gp < w.heap.size∧rs.length+u.length≤l.length
section
variable {w W W':World} {gp:Nat} {A:Option Addr} {c:Nat} {l u u':List To} {v v':Value} {rs:List HM} {o:List Ha} {m:HM} {hh:Ha}
theorem ExW.new (h:Ps w gp A c l u) (hu:u.length≤l.length):ExW w gp A c l (.slice none 0 0) [] [] (w.alloc (.cells #[.int .u8 0,.int .i64 0,.string ⟨#[]⟩,.string ⟨#[]⟩,.string ⟨#[]⟩,.slice none 0 0] 53)) u:=
 ⟨h.next (below_lnew w _),El.Own.nil _ _,trivial,heap_alloc_new w _,grown_below (below_lnew w _) _,h.lt,by simpa using hu⟩
theorem ExW.below (h:ExW w gp A c l v rs o W u) (hb:Below W.heap.size W W'):ExW w gp A c l v rs o W' u:=
 ⟨h.p.next hb,h.r.below hb,Stk.keep (fun g _ hg=>hb.block g hg.lt) (fun _ q=>q) h.s,h.a.below hb h.a.lt,grown_trans h.g (grown_below hb _),h.n⟩
theorem ExW.drew (h:ExW w gp A c l v rs o W u):ExW w gp A c l v rs o W.drew u:=h.below ((Below.refl _ W).drew)
theorem ExW.step (h:ExW w gp A c l v rs o W u) (hp:Ps W' gp A c l u') (hg:W.grownBy W' (some gp)) (hu:u'.length≤u.length):ExW w gp A c l v rs o W' u':=by
 have hb:ButT 57 W W':=ButT.grown hg fun k e=>by injection e with e;subst e;exact h.p.has
 exact ⟨hp,h.r.but hb (by decide),Stk.keep (fun g _ ht=>hb g _ ht (by decide)) (fun _ q=>q) h.s,(hb _ _ ⟨_,_,h.a⟩ (by decide)).trans h.a,grown_trans h.g hg,h.n.1,by have:=h.n.2;omega⟩
theorem ExW.push (h:ExW w gp A c l v rs o W u) (hg:W.grownBy W' v.ownBlock) (ho:eH.Own W' w.heap.size v' (rs.reverse++[m])) (hi:m.Is hh W (fun g=>w.heap.size < g)) (hl:rs.length+1+u.length≤l.length):ExW w gp A c l v' (m::rs) (hh::o) W' u:=by
 have hz:w.heap.size≤W.heap.size:=h.g.size;have hb:ButT 139 W W':=ButT.grown hg fun k e=>h.r.has k e
 have hB:Below w.heap.size W W':=El.below_grown (Below.refl _ W) hg h.r hz;have hk:∀ g,w.heap.size < g→HasT W g 53→W'.heap[g]? = W.heap[g]? := fun g _ ht=>hb g _ ht (by decide)
 exact ⟨h.p.below hB h.n.1,by rw [List.reverse_cons];exact ho,⟨hi.keep hk (fun _ q=>q),Stk.keep hk (fun _ q=>q) h.s⟩,(hb _ _ ⟨_,_,h.a⟩ (by decide)).trans h.a,grown_new h.g hB,h.n.1,by simpa using hl⟩
theorem ExW.left {Ao:Option Addr} {n co:Nat} {rs2:List HM} {o2:List Ha} {P:Nat→Prop} (h:ExW w gp A c l (.slice Ao n co) rs o W u) (hsf:rs2 <:+ rs) (hp:Ps W' gp A c l u') (hg:W.grownBy W' (some gp)) (hu:u'.length≤u.length) (hs:Stk W' P rs2 o2) (hP:∀ g,P g→w.heap.size < g):ExW w gp A c l (.slice Ao rs2.length co) rs2 o2 W' u':=by
 have h1:=h.step hp hg hu;obtain ⟨t,rfl⟩:=hsf;have hr:=h1.r;rw [List.reverse_append] at hr;have hf:=hr.front;rw [List.length_reverse] at hf;exact ⟨hp,hf,Stk.keep (fun _ _ _=>rfl) hP hs,h1.a,h1.g,h1.n.1,by have:=h1.n.2;rw [nH] at this;omega⟩
end
end Go.Proofs.Ytflhcdcifilfcaa
