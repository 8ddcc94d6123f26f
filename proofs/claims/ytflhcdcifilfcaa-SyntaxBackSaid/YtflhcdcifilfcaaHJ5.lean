/-
  Merged for a claim: SYK, SYL, SYM.
-/
import Derived.Test.YtflhcdcifilfcaaHJ4
namespace Go.Proofs.Ytflhcdcifilfcaa
open Go Go.RowKit

section
variable {ops:Array Oper} {rest:List Oper} {o:Oper} {a:Act} {Q:Exit→Act→World→Prop} {α:Type}
theorem El.full1 (K:El α) (w:World) (hgd:o.guard=none) (sl:TypeId) (z:Value) (by_:Nat) (hu:Try.prog.underlying sl=some (.slice K.e)) (hi:(Try.prog.info? K.e).map (fun i=>(i.zero,i.size,i.bytes))=some (some z,K.sz,by_)) (hby:by_≤128)
 (s x:Operand) (ho:o.op = .call { callee:= .builtin .append,args:=#[s,x],argTypes:=#[sl,sl] })
 (A:Option Addr) (c L:Nat) (xs:List α) (hs:a.eval s = .slice A xs.length c) (hfull:c≤xs.length) (hA:A=none→c=0) (hl:K.Lies w L A xs) (hlc:xs.length≤c)
 (g c2:Nat) (y:α) (hx:a.eval x = .slice (some ⟨g,0,none⟩) 1 c2) (t:TypeId) (hy:w.heap[g]? = some (.cells (K.f y).toArray t (0,0)))
 (hn:xs.length≤1000000) (h:∀ c' w',K.LiesT w' (some ⟨w.heap.size,0,none⟩) (xs++[y])→xs.length+1≤c'→Below w.heap.size w w'→wpList Try.prog ops Q rest (a.put o.dst (.slice (some ⟨w.heap.size,0,none⟩) (xs.length+1) c')) w'):wpList Try.prog ops Q (o::rest) a w:=
 wpList_plain hgd fun _ hK'=>El.op_full1 K w sl z by_ hu hi hby s x ho A c L xs hs hfull hA hl hlc g c2 y hx t hy hn (fun c' w' r1 r2 r3=>hK' _ _ (h c' w' r1 r2 r3))
end
inductive XT where
 | mk (kd nu:Int) (nm fl op:List UInt8) (A:Option Addr) (c:Nat) (ks:List XT)
def XT.cs:XT→List Value
 | .mk kd nu nm fl op A c ks=>[.int .u8 kd,.int .i64 nu,.string (str nm),.string (str fl),.string (str op),.slice A ks.length c]
def xV (t:XT):Value:= .agg t.cs.toArray
def eX:El XT:=⟨53,6,XT.cs,fun x=>by cases x;rfl,fun x u hu=>by
 cases x;simp [XT.cs] at hu
 rcases hu with rfl | rfl | rfl | rfl | rfl | rfl<;>rfl,by omega⟩
mutual
def XT.d:XT→Ex
 | .mk kd nu nm fl op _ _ ks=> .mk kd nu nm fl op (xsd ks)
def xsd:List XT→List Ex
 | []=>[]
 | x::l=>x.d::xsd l
end
theorem xsd_map (l:List XT):xsd l=l.map XT.d:=by
 induction l with
 | nil=>rfl
 | cons x l ih=>rw [xsd,ih];rfl
mutual
def XT.Ok (w:World) (P:Nat→Prop):XT→Prop
 | .mk _ _ _ _ _ A c ks=>(eX.LiesT w A ks∧ks.length≤c∧(A=none→c=0)∧(0 < ks.length→∀ a,A=some a→P a.block))∧xsOk w P ks
def xsOk (w:World) (P:Nat→Prop):List XT→Prop
 | []=>True
 | x::l=>x.Ok w P∧xsOk w P l
end
section
variable {w w':World} {P Q:Nat→Prop}
theorem liesP_keep {α:Type} {K:El α} {A:Option Addr} {xs:List α} (h:K.LiesT w A xs) (hp:0 < xs.length→∀ a,A=some a→P a.block) (hk:∀ g,P g→HasT w g K.e→w'.heap[g]? = w.heap[g]?):K.LiesT w' A xs:=fun hl=>by
 obtain ⟨g,o,e,hg,hc⟩:=h hl;have hb:=hk g (hp hl _ e) hg;exact ⟨g,o,e,hg.same hb,fun j hj f u hu=>(World.cell?_of_block hb).trans (hc j hj f u hu)⟩
mutual
theorem XT.Ok.keep (hk:∀ g,P g→HasT w g 53→w'.heap[g]? = w.heap[g]?) (hm:∀ g,P g→Q g):∀ (t:XT),t.Ok w P→t.Ok w' Q
 | .mk _ _ _ _ _ _ _ ks,h=>by
  rw [XT.Ok] at h ⊢;exact ⟨⟨liesP_keep h.1.1 h.1.2.2.2 hk,h.1.2.1,h.1.2.2.1,fun hl a e=>hm _ (h.1.2.2.2 hl a e)⟩,xsOk.keep hk hm ks h.2⟩
theorem xsOk.keep (hk:∀ g,P g→HasT w g 53→w'.heap[g]? = w.heap[g]?) (hm:∀ g,P g→Q g):∀ (l:List XT),xsOk w P l→xsOk w' Q l
 | [],_=>by rw [xsOk];trivial
 | x::l,h=>by
  rw [xsOk] at h ⊢;exact ⟨XT.Ok.keep hk hm x h.1,xsOk.keep hk hm l h.2⟩
end
mutual
theorem XT.Ok.low:∀ (t:XT),t.Ok w P→t.Ok w (fun g=>P g∧g < w.heap.size)
 | .mk _ _ _ _ _ _ _ ks,h=>by
  rw [XT.Ok] at h ⊢;refine ⟨⟨h.1.1,h.1.2.1,h.1.2.2.1,fun hl a e=>⟨h.1.2.2.2 hl a e,?_⟩⟩,xsOk.low ks h.2⟩;obtain ⟨g,o,e2,hg,_⟩:=h.1.1 hl;rw [e] at e2;injection e2 with e2;subst e2;exact hg.lt
theorem xsOk.low:∀ (l:List XT),xsOk w P l→xsOk w (fun g=>P g∧g < w.heap.size) l
 | [],_=>by rw [xsOk];trivial
 | x::l,h=>by
  rw [xsOk] at h ⊢;exact ⟨XT.Ok.low x h.1,xsOk.low l h.2⟩
end
theorem XT.Ok.below {t:XT} (h:t.Ok w P) (hb:Below w.heap.size w w'):t.Ok w' P:=XT.Ok.keep (fun g _ hg=>hb.block g hg.lt) (fun _ h=>h) t h
theorem XT.Ok.up {t:XT} (h:t.Ok w P) (hm:∀ g,P g→Q g):t.Ok w Q:=XT.Ok.keep (fun _ _ _=>rfl) hm t h
theorem xsOk.all {l:List XT} (h:xsOk w P l):∀ x∈l,x.Ok w P:=by
 induction l with
 | nil=>intro x hx;cases hx
 | cons y l ih=>
  rw [xsOk] at h;intro x hx;rcases List.mem_cons.1 hx with rfl | hx
  · exact h.1
  · exact ih h.2 x hx
theorem xsOk.of {l:List XT} (h:∀ x∈l,x.Ok w P):xsOk w P l:=by
 induction l with
 | nil=>rw [xsOk];trivial
 | cons y l ih=>
  rw [xsOk];exact ⟨h y (by simp),ih fun x hx=>h x (List.mem_cons_of_mem _ hx)⟩
end
def xLeaf (kd nu:Int) (nm fl op:List UInt8):XT:= .mk kd nu nm fl op none 0 []
theorem xLeaf_ok (w:World) (P:Nat→Prop) (kd nu:Int) (nm fl op:List UInt8):(xLeaf kd nu nm fl op).Ok w P:=by
 unfold xLeaf;rw [XT.Ok,xsOk];exact ⟨⟨El.LiesT.nil _ _,Nat.le_refl _,fun _=>rfl,fun hl=>absurd hl (by simp)⟩,trivial⟩
structure HM where
 x:XT
 b:Int
 en:List UInt8
def HM.cs (m:HM):List Value:=m.x.cs++[.int .i64 m.b,.string (str m.en)]
def hV (m:HM):Value:= .agg m.cs.toArray
def eH:El HM:=⟨139,8,HM.cs,fun m=>by unfold HM.cs;rcases m with ⟨x,b,en⟩;cases x;rfl,fun m u hu=>by
 rcases m with ⟨x,b,en⟩;cases x;simp [HM.cs,XT.cs] at hu
 rcases hu with rfl | rfl | rfl | rfl | rfl | rfl | rfl | rfl<;>rfl,by omega⟩
def Ha.pe:Ha→Ex
 | .un op=> .mk 6 0 [] [] op []
 | .par=> .mk 0 0 [] [] [] []
 | .elem nm=> .mk 4 0 nm [] [] []
 | .bin op x _=> .mk 7 0 [] [] op [x]
def XT.full:XT→Prop | .mk _ _ _ _ _ _ c ks=>c≤ks.length
structure HM.Is (m:HM) (h:Ha) (w:World) (P:Nat→Prop):Prop where
 d:m.x.d=h.pe
 b:m.b=h.b
 e:m.en=h.en
 f:m.x.full
 o:m.x.Ok w P
def addK:Ex→Ex→Ex | .mk kd nu nm fl op ks,y=> .mk kd nu nm fl op (ks++[y])
theorem fin_add (h:Ha) (hp:h ≠ .par) (y:Ex):h.fin y=addK h.pe y:=by
 cases h
 · rfl
 · exact absurd rfl hp
 · rfl
 · rfl
set_option maxRecDepth 100000 in
set_option maxHeartbeats 2000000 in
theorem binds_any (t:To) (w:World):Calls Try.prog 94 #[tV t] w (fun e w'=>e = .returned (.int .i64 (if t.kd=4 then bnd t.tx else 0:Nat))∧Below w.heap.size w w'):=by
 obtain ⟨kd,tx,nu,ln⟩:=t;unfold tV tS;dsimp only;by_cases hk:kd=4
 · subst hk;rw [if_pos rfl];go_enter Try.func94,Try.ntmps94;(go_wp2_with fail);all_goals
    go_ret;refine ⟨?_,below_lnew w _⟩;simp only [str_toList,beq_iff_eq,beq_eq_false_iff_ne,ne_eq] at *;unfold bnd
    simp_all
 · (have hk2:(kd == 4)=false:=by simpa using hk);rw [if_neg hk];go_enter Try.func94,Try.ntmps94;(go_wp2_with fail);go_ret;exact ⟨rfl,below_lnew w _⟩
end Go.Proofs.Ytflhcdcifilfcaa

namespace Go.Proofs.Ytflhcdcifilfcaa
open Go Go.RowKit

theorem exp_size:(Try.prog.info? 53).map (·.size)=some 6:=by kernel_rfl
theorem exp_info:(Try.prog.info? 53).map (fun i=>(i.zero,i.size,i.bytes))=some (some (.agg #[.int .u8 0,.int .i64 0,.string ⟨#[]⟩,.string ⟨#[]⟩,.string ⟨#[]⟩,.slice none 0 0]),6,88):=by kernel_rfl
theorem exp_back {fn:Func} {p:Tmp} (h:fn.results=#[.cell p 53]) {tmps:Array Value} {w:World} {g:Nat} (hp:tmps.getD p undef = .pointer (some ⟨g,0,none⟩))
 {t:XT} (hg:CAt w g 53 t.cs):(results fn tmps).run Try.prog w = .ok (xV t) w:=by
 cases t;exact results_cell_row h tmps w g _ _ _ _ hp hg Try.underlying53 rfl exp_size
theorem new_at (W:World) (g:Nat) (hg:g=W.heap.size) (o:Obj):(W.alloc o).heap[g]? = some o:=by
 subst hg;exact heap_alloc_new W o
theorem below_al2 (w:World) (a b:Obj):Below w.heap.size w ((w.alloc a).alloc b):=(below_lnew w a).alloc (by simp) b
theorem below_al3 (w:World) (a b c:Obj):Below w.heap.size w (((w.alloc a).alloc b).alloc c):=(below_al2 w a b).alloc (by simp;omega) c
theorem below_al4 (w:World) (a b c d:Obj):Below w.heap.size w ((((w.alloc a).alloc b).alloc c).alloc d):=(below_al3 w a b c).alloc (by simp;omega) d
theorem at_al1 (w:World) (o a b c:Obj):((((w.alloc o).alloc a).alloc b).alloc c).heap[w.heap.size]? = some o:=
 ((below_al3 (w.alloc o) a b c).block w.heap.size (by simp)).trans (heap_alloc_new w o)
theorem at_al3 (w:World) (o a b c:Obj):((((w.alloc a).alloc b).alloc o).alloc c).heap[w.heap.size+1+1]? = some o:=
 ((below_lnew (((w.alloc a).alloc b).alloc o) c).block (w.heap.size+1+1) (by simp)).trans (new_at _ _ (by simp) o)
def setE (W:World) (g:Nat):XT→World
 | .mk kd nu nm fl op A c ks=>(((((W.setCell ⟨g,0,none⟩ (.int .u8 kd)).setCell ⟨g,1,none⟩ (.int .i64 nu)).setCell ⟨g,2,none⟩ (.string (str nm))).setCell ⟨g,3,none⟩ (.string (str fl))).setCell ⟨g,4,none⟩ (.string (str op))).setCell ⟨g,5,none⟩ (.slice A ks.length c)
theorem setE_at {W:World} {g:Nat} {z0 z1 z2 z3 z4 z5:Value} (t:XT) (h:CAt W g 53 [z0,z1,z2,z3,z4,z5]):CAt (setE W g t) g 53 t.cs:=by
 cases t;exact (((((h.set 0 _).set 1 _).set 2 _).set 3 _).set 4 _).set 5 _
theorem setE_below {W:World} {B g:Nat} (t:XT) (h:B≤g):Below B W (setE W g t):=by
 cases t;exact ((((((Below.refl B W).setCell (p:=⟨g,0,none⟩) h _).setCell (p:=⟨g,1,none⟩) h _).setCell (p:=⟨g,2,none⟩) h _).setCell (p:=⟨g,3,none⟩) h _).setCell (p:=⟨g,4,none⟩) h _).setCell (p:=⟨g,5,none⟩) h _
theorem setE_heap {W:World} {g k:Nat} (t:XT) (h:k≠g):(setE W g t).heap[k]? = W.heap[k]? := by
 cases t;unfold setE;rw [Below.heap_setCell _ _ _ k h,Below.heap_setCell _ _ _ k h,Below.heap_setCell _ _ _ k h,Below.heap_setCell _ _ _ k h,Below.heap_setCell _ _ _ k h,Below.heap_setCell _ _ _ k h]
theorem xsd_snoc (l:List XT) (y:XT):xsd (l++[y])=xsd l++[y.d]:=by simp [xsd_map]
theorem xsd_len (l:List XT):(xsd l).length=l.length:=by simp [xsd_map]
def WithR (w:World) (P:Nat→Prop) (x:Ex) (e:Ending) (w':World):Prop:=∃ z:XT,e = .returned (xV z)∧z.d=x∧z.Ok w' (fun g=>P g∨w.heap.size≤g)∧Below w.heap.size w w'
set_option maxRecDepth 100000 in
set_option maxHeartbeats 4000000 in
theorem with_any (m:HM) (h:Ha) (P:Nat→Prop) (y:XT) (w:World) (hm:m.Is h w P) (hy:y.Ok w P) :
 Calls Try.prog 97 #[hV m,xV y] w (WithR w P (h.fin y.d)):=by
 obtain ⟨⟨kd,nu,nm,fl,op,A,c,ks⟩,b,en⟩:=m;have hd:=hm.d;rw [XT.d] at hd;have HY:=h_ hy;unfold hV HM.cs;by_cases hp:h = .par
 · subst hp;(have hk:kd=0:=by rw [Ha.pe] at hd;injection hd);subst hk;clear hm hy hd;obtain ⟨k2,n2,m2,f2,o2,A2,c2,ks2⟩:=y;unfold xV XT.cs;go_enter Try.func97,Try.ntmps97;(go_wp2_with fail);exact bodyPost_ret (exp_back (t:= .mk k2 n2 m2 f2 o2 A2 c2 ks2) rfl rfl (new_at _ _ (by simp) _)) rfl ⟨_,rfl,rfl,(HY.out.below (below_al3 w _ _ _)).up fun _ q=> .inl q,below_al3 w _ _ _⟩
 · have hk0:¬ kd=0∧ks.length≤1:=by
    have hl:=xsd_len ks;cases h
    · rw [Ha.pe] at hd;injection hd with h1 _ _ _ _ h6;rw [h6] at hl;exact ⟨by omega,by rw [← hl];decide⟩
    · exact absurd rfl hp
    · rw [Ha.pe] at hd;injection hd with h1 _ _ _ _ h6;rw [h6] at hl;exact ⟨by omega,by rw [← hl];decide⟩
    · rw [Ha.pe] at hd;injection hd with h1 _ _ _ _ h6;rw [h6] at hl;exact ⟨by omega,by rw [← hl];exact Nat.le_refl _⟩
   (have hk2:(kd == 0)=false:=by simpa using hk0.1);have hkl:=hk0.2;have hfull:c≤ks.length:=hm.f;have ho:=hm.o;rw [XT.Ok] at ho;have hlc:=ho.1.2.1;have hA:=ho.1.2.2.1;have HL:=h_ ho.1.1;have HP:=h_ ho;have HF:=h_ (show h.fin y.d = .mk kd nu nm fl op (xsd (ks++[y])) by rw [fin_add h hp,← hd,addK,xsd_snoc]);rw [HF.out];(have hzs:w.heap.size+1+1≠w.heap.size:=by omega);clear hm hd hk0 ho hy;obtain ⟨k2,n2,m2,f2,o2,A2,c2,ks2⟩:=y;unfold xV XT.cs;go_enter Try.func97,Try.ntmps97
   go_wp2_with (at_builtin
                go_must (refine El.full1 eX _ rfl 49 _ 88 Try.underlying49 exp_info (by decide) (.tmp 12) (.tmp 14) rfl A c _ ks rfl hfull hA (HL.out.lies.below (below_al4 w _ _ _ _)) hlc _ _ (.mk k2 n2 m2 f2 o2 A2 c2 ks2) rfl 53 (new_at _ _ (by simp) _) (by omega) ?_)
                intro c6 w6 hl6 hc6 hb6;have hc1:CAt w6 w.heap.size 139 [.int .u8 kd,.int .i64 nu,.string (str nm),.string (str fl),.string (str op),.slice A ks.length c,.int .i64 b,.string (str en)]:=(hb6.block _ (by simp;omega)).trans (at_al1 w _ _ _ _);have hc3:CAt w6 (w.heap.size+1+1) 53 [.int .u8 0,.int .i64 0,.string ⟨#[]⟩,.string ⟨#[]⟩,.string ⟨#[]⟩,.slice none 0 0]:=(hb6.block _ (by simp)).trans (at_al3 w _ _ _ _);have hb7:=(below_al4 w _ _ _ _).trans (hb6.mono (below_al4 w _ _ _ _).size);simp only [World.size_alloc] at hl6 ⊢;have HL6:=h_ hl6;have HB7:=h_ hb7;have HC3:=h_ hc3;clear hl6 hb6 hb7;have x0:=hc1.cell (j:=0) (by simp);have xf0:=hc1.frozen 0;have x1:=hc1.cell (j:=1) (by simp);have xf1:=hc1.frozen 1;have x2:=hc1.cell (j:=2) (by simp);have xf2:=hc1.frozen 2;have x3:=hc1.cell (j:=3) (by simp);have xf3:=hc1.frozen 3;have x4:=hc1.cell (j:=4) (by simp);have xf4:=hc1.frozen 4;have x5:=hc1.cell (j:=5) (by simp);have xf5:=hc1.frozen 5;have x6:=hc1.cell (j:=6) (by simp);have xf6:=hc1.frozen 6;have x7:=hc1.cell (j:=7) (by simp);have xf7:=hc1.frozen 7;have r0:=hc3.cell (j:=0) (by simp);have rf0:=hc3.frozen 0;have r1:=hc3.cell (j:=1) (by simp);have rf1:=hc3.frozen 1;have r2:=hc3.cell (j:=2) (by simp);have rf2:=hc3.frozen 2;have r3:=hc3.cell (j:=3) (by simp);have rf3:=hc3.frozen 3;have r4:=hc3.cell (j:=4) (by simp);have rf4:=hc3.frozen 4;have r5:=hc3.cell (j:=5) (by simp);have rf5:=hc3.frozen 5;simp only [nD,nE] at x0 x1 x2 x3 x4 x5 x6 x7 r0 r1 r2 r3 r4 r5
                clear hc1 hc3)
   obtain ⟨y,hy⟩:∃ y,XT.mk k2 n2 m2 f2 o2 A2 c2 ks2=y:=⟨_,rfl⟩;rw [hy] at HL6 HY ⊢;rw [show ks.length+1=(ks++[y]).length by simp];obtain ⟨z,hz⟩:∃ z,XT.mk kd nu nm fl op (some ⟨w.heap.size+1+1+1+1,0,none⟩) c6 (ks++[y])=z:=⟨_,rfl⟩;obtain ⟨W7,hW7⟩:∃ W7,w6.setCell ⟨w.heap.size,5,none⟩ (.slice (some ⟨w.heap.size+1+1+1+1,0,none⟩) (ks++[y]).length c6)=W7:=⟨_,rfl⟩;(have hb7:Below w.heap.size w6 W7:=by rw [← hW7];exact (Below.refl _ w6).setCell (p:=⟨w.heap.size,5,none⟩) (Nat.le_refl _) _);(have hk7:∀ g:Nat,g≠w.heap.size→W7.heap[g]? = w6.heap[g]? := fun g hg=>by rw [← hW7];exact Below.heap_setCell w6 ⟨w.heap.size,5,none⟩ _ g hg);have hc7:CAt W7 (w.heap.size+1+1) 53 _:=(hk7 _ hzs).trans HC3.out;have hz8:=setE_at z hc7;have hb8:=hb7.trans (setE_below (W:=W7) (B:=w.heap.size) (g:=w.heap.size+1+1) z (by omega));(have hk8:∀ g:Nat,g≠w.heap.size→g≠w.heap.size+1+1→(setE W7 (w.heap.size+1+1) z).heap[g]? = w6.heap[g]? := fun g h1 h2=>(setE_heap z h2).trans (hk7 g h1));have hB:=HB7.out.trans hb8;obtain ⟨W8,hW8⟩:∃ W8,setE W7 (w.heap.size+1+1) z=W8:=⟨_,rfl⟩;rw [hW8] at hk8 hB hz8;have hl8:eX.LiesT W8 (some ⟨w.heap.size+1+1+1+1,0,none⟩) (ks++[y]):=liesP_keep (P:=fun g=>g=w.heap.size+1+1+1+1) HL6.out (fun _ a e=>by injection e with e;subst e;rfl) (fun g hg _=>hk8 g (by omega) (by omega));have hxs:xsOk W8 (fun g=>P g∨w.heap.size≤g) (ks++[y]):=xsOk.of fun x hx=>by
    have hx0:x.Ok w P:=by
     rcases List.mem_append.1 hx with hx | hx
     · exact xsOk.all HP.out.2 x hx
     · rw [List.mem_singleton.1 hx];exact HY.out
    exact (hx0.below hB).up fun _ q=> .inl q
   (have hlz:(ks++[y]).length≤c6:=by rw [nH];exact hc6);have hzo:z.Ok W8 (fun g=>P g∨w.heap.size≤g):=by
    rw [← hz,XT.Ok];exact ⟨⟨hl8,hlz,fun e=>(by cases e),fun _ a e=>by injection e with e;subst e;exact .inr (show w.heap.size≤w.heap.size+1+1+1+1 by omega)⟩,hxs⟩
   (have hzd:z.d = .mk kd nu nm fl op (xsd (ks++[y])):=by rw [← hz,XT.d]);rw [hW7];have hfin:WithR w P (Ex.mk kd nu nm fl op (xsd (ks++[y]))) (.returned (xV z)) W8:=⟨z,rfl,hzd,hzo,hB⟩;subst hW8;subst hz;exact bodyPost_ret (exp_back rfl rfl hz8) rfl hfin
end Go.Proofs.Ytflhcdcifilfcaa

namespace Go.Proofs.Ytflhcdcifilfcaa
open Go Go.RowKit

def stp (kd:Int) (tx:List UInt8) (u:List To):List To:=if isT kd tx u=true then u.tail else u
section
variable {w:World} {gp:Nat} {A:Option Addr} {c:Nat} {l u:List To}
theorem take_any (h:Ps w gp A c l u) (t:To) (ht:t.kd≠0) :
 Calls Try.prog 59 #[.pointer (some ⟨gp,0,none⟩),tV t] w (fun e w'=>e = .returned (.bool (isT t.kd t.tx u))∧Ps w' gp A c l (stp t.kd t.tx u)∧w.grownBy w' (some gp)):=by
 unfold stp;cases hy:isT t.kd t.tx u
 · rw [if_neg (by decide)];exact take_no h t ht hy
 · rw [if_pos rfl];exact take_yes h t ht hy
theorem half_at (W:World) (m:HM):CAt (W.alloc (.cells m.cs.toArray 139)) W.heap.size 139 m.cs:=heap_alloc_new W _
set_option maxRecDepth 100000 in
set_option maxHeartbeats 2000000 in
theorem ends_any (hP:Ps w gp A c l u) (m:HM) (h:Ha) (hb:m.b=h.b) (he:m.en=h.en) :
 Calls Try.prog 96 #[.pointer (some ⟨gp,0,none⟩),hV m] w (fun e w'=>e = .returned (.bool (h.ends u))∧Ps w' gp A c l (if h.ends u=true then h.rest u else u)∧w.grownBy w' (some gp)):=by
 have hB:=below_lnew w (.cells m.cs.toArray 139);have hc:=half_at w m;obtain ⟨⟨kd,nu,nm,fl,op,Ak,ck,ks⟩,b,en⟩:=m;unfold HM.cs XT.cs at hc hB;dsimp only at hb he hc hB;unfold hV HM.cs XT.cs;dsimp only;simp only [nI,nJ] at hc hB ⊢;have hgp:=hP.lt;have HBQ:=h_ hb;clear hb;obtain ⟨wa,hwa⟩:∃ wa,w.alloc (.cells [Value.int .u8 kd,.int .i64 nu,.string (str nm),.string (str fl),.string (str op),.slice Ak ks.length ck,.int .i64 b,.string (str en)].toArray 139)=wa:=⟨_,rfl⟩;rw [hwa] at hc hB;have HWA:=h_ hwa;have x6:=hc.cell (j:=6) (by simp);have x7:=hc.cell (j:=7) (by simp);simp only [nD,nE] at x6 x7;have HPd:=h_ (hP.next hB.drew);have HBd:=h_ hB.drew;have HCd:=h_ (show CAt wa.drew w.heap.size 139 _ from hc);have hne:w.heap.size≠gp:=by omega
 by_cases h0:h.en=[]
 · (have h1:en=[]:=by rw [he,h0]);subst h1;(have hs0:((str ([]:List UInt8)).toList == [])=true:=by rw [str_toList];rfl);(have hres:h.ends u=decide (bndU u≤h.b):=by unfold Ha.ends;rw [if_pos h0]);(have hrst:(if h.ends u=true then h.rest u else u)=u:=by unfold Ha.rest;rw [if_pos h0];split<;>rfl);rw [hrst,hres];have hbn:((if (hd u).kd=4 then bnd (hd u).tx else 0:Nat))=bndU u:=by
    unfold bndU;have:=isK_hd (kd:=4) (u:=u) (by decide);by_cases h4:(hd u).kd=4
    · rw [if_pos h4,← this,decide_eq_true h4,if_pos rfl]
    · rw [if_neg h4,← this,decide_eq_false h4,if_neg (by decide)]
   have HLK:=h_ (look_any HPd.out 0 (by omega));rw [List.drop_zero] at HLK;have hdc:decide ((bndU u:Int)≤b)=decide (bndU u≤h.b):=by
    rw [HBQ.out];by_cases q:bndU u≤h.b
    · rw [decide_eq_true q,decide_eq_true (by omega)]
    · rw [decide_eq_false q,decide_eq_false (by omega)]
   have HBI:=h_ (fun w1=>binds_any (hd u) w1);rw [hbn] at HBI;rw [← hdc];clear hres hrst hbn hdc hP hc hB hwa he;go_enter Try.func96,Try.ntmps96;(go_wp2_with fail);rw [HWA.out];refine wp_region_held_drew (S:=fun W9=>W9.cell? ⟨w.heap.size,6,none⟩=some (.int .i64 b)) (by kernel_rfl) (x6) (fun hH=>?_);refine heldTake (i:=0) (d:=some 15) (v:=?_) rfl rfl (by kernel_rfl) (by kernel_rfl) (by kernel_rfl) (fun _ _ _ h=>h) (by kernel_rfl) ?hyq_1 (by assumption) ?restq_1;(case hyq_1=>(intro W9 hSw;(try dsimp only at hSw);go_simp;try (with_reducible rfl)));(try simp only [Act.put,nA,nB,nC]);refine heldTake (i:=1) (d:=some 16) (v:=?_) rfl rfl (by kernel_rfl) (by kernel_rfl) (by kernel_rfl) (fun _ _ _ h=>h) (by kernel_rfl) ?hyq_2 (by assumption) ?restq_2;(case hyq_2=>(intro W9 hSw;(try dsimp only at hSw);go_simp;try (with_reducible rfl)));(try simp only [Act.put,nA,nB,nC]);refine heldTake (i:=2) (d:=some 17) (v:=?_) rfl rfl (by kernel_rfl) (by kernel_rfl) (by kernel_rfl) (fun _ _ _ h=>h) (by kernel_rfl) ?hyq_3 (by assumption) ?restq_3;(case hyq_3=>(intro W9 hSw;(try dsimp only at hSw);go_simp;try (with_reducible rfl)));(try simp only [Act.put,nA,nB,nC]);refine heldTake (i:=3) (d:=some 18) (v:=?_) rfl rfl (by kernel_rfl) (by kernel_rfl) (by kernel_rfl) (fun _ _ _ h=>h) (by kernel_rfl) ?hyq_4 (by assumption) ?restq_4;(case hyq_4=>(intro W9 hSw;(try dsimp only at hSw);go_simp;try (with_reducible rfl)));(try simp only [Act.put,nA,nB,nC]);refine heldTake (i:=4) (d:=some 19) (v:=?_) rfl rfl (by kernel_rfl) (by kernel_rfl) (by kernel_rfl) (fun _ _ _ h=>h) (by kernel_rfl) ?hyq_5 (by assumption) ?restq_5;(case hyq_5=>(intro W9 hSw;(try dsimp only at hSw);go_simp;try (with_reducible rfl)));(try simp only [Act.put,nA,nB,nC]);refine nM (i:=5) (by kernel_rfl) rfl fun K hK=>?_;go_simp;(go_at_call 55);refine HLK.out.mono ?_;rintro e9 X ⟨rfl,hbX⟩;have HCX:=h_ (HCd.out.below hbX HCd.out.lt);have y6:=HCX.out.cell (j:=6) (by simp);simp only [nD,nE] at y6;(go_wp2_with fail);refine hK.out _ _ y6 (fun hH=>?_);clear hK K;(try simp only [Act.put,nA,nB,nC]);refine nM (i:=6) (by kernel_rfl) rfl fun K hK=>?_;go_simp;(go_at_call 94);refine (HBI.out X).mono ?_;rintro e9 Y ⟨rfl,hbY⟩;have HCY:=h_ (HCX.out.below hbY HCX.out.lt);have z6:=HCY.out.cell (j:=6) (by simp);simp only [nD,nE] at z6;(go_wp2_with fail);refine hK.out _ _ z6 (fun hH=>?_);clear hK K;(try simp only [Act.put,nA,nB,nC]);refine heldTake (i:=7) (d:=some 22) (v:=?_) rfl rfl (by kernel_rfl) (by kernel_rfl) (by kernel_rfl) (fun _ _ _ h=>h) (by kernel_rfl) ?hyq_6 (by assumption) ?restq_6;(case hyq_6=>(intro W9 hSw;(try dsimp only at hSw);go_simp;try (with_reducible rfl)));(try simp only [Act.put,nA,nB,nC]);refine heldTake (i:=8) (d:=some 4) (v:=?_) rfl rfl (by kernel_rfl) (by kernel_rfl) (by kernel_rfl) (fun _ _ _ h=>h) (by kernel_rfl) ?hyq_7 (by assumption) ?restq_7;(case hyq_7=>(intro W9 hSw;(try dsimp only at hSw);go_simp;try (with_reducible rfl)));(try simp only [Act.put,nA,nB,nC]);refine wpAnyH_done (by kernel_rfl) ?_ _;(go_wp2_with fail);go_ret;exact ⟨rfl,HPd.out.next (hbX.trans (hbY.mono hbX.size)),grown_trans (grown_below HBd.out _) (grown_below (hbX.trans (hbY.mono hbX.size)) _)⟩
 · (have h1:(str en).toList≠[]:=by rw [str_toList,he];exact h0);have h2:((str en).toList == [])=false:=beq_eq_false_iff_ne.2 h1;(have hres:h.ends u=isS en u:=by unfold Ha.ends;rw [if_neg h0,he]);(have hrst:(if h.ends u=true then h.rest u else u)=stp 4 en u:=by unfold Ha.rest stp;rw [if_neg h0,hres];rfl);rw [hrst,hres];clear hres hrst hP hc hB hwa he;go_enter Try.func96,Try.ntmps96;(go_wp2_with fail);rw [HWA.out];refine wp_region_held_drew (S:=fun W9=>W9.cell? ⟨w.heap.size,7,none⟩=some (.string (str en))) (by kernel_rfl) (x7) (fun hH=>?_);refine heldTake (i:=0) (d:=some 8) (v:=?_) rfl rfl (by kernel_rfl) (by kernel_rfl) (by kernel_rfl) (fun _ _ _ h=>h) (by kernel_rfl) ?hyq_8 (by assumption) ?restq_8;(case hyq_8=>(intro W9 hSw;(try dsimp only at hSw);go_simp;try (with_reducible rfl)));(try simp only [Act.put,nA,nB,nC]);refine heldTake (i:=1) (d:=some 9) (v:=?_) rfl rfl (by kernel_rfl) (by kernel_rfl) (by kernel_rfl) (fun _ _ _ h=>h) (by kernel_rfl) ?hyq_9 (by assumption) ?restq_9;(case hyq_9=>(intro W9 hSw;(try dsimp only at hSw);go_simp;try (with_reducible rfl)));(try simp only [Act.put,nA,nB,nC]);refine heldTake (i:=2) (d:=some 10) (v:=?_) rfl rfl (by kernel_rfl) (by kernel_rfl) (by kernel_rfl) (fun _ _ _ h=>h) (by kernel_rfl) ?hyq_10 (by assumption) ?restq_10;(case hyq_10=>(intro W9 hSw;(try dsimp only at hSw);go_simp;try (with_reducible rfl)));(try simp only [Act.put,nA,nB,nC]);refine heldTake (i:=3) (d:=some 11) (v:=?_) rfl rfl (by kernel_rfl) (by kernel_rfl) (by kernel_rfl) (fun _ _ _ h=>h) (by kernel_rfl) ?hyq_11 (by assumption) ?restq_11;(case hyq_11=>(intro W9 hSw;(try dsimp only at hSw);go_simp;try (with_reducible rfl)));(try simp only [Act.put,nA,nB,nC]);refine heldTake (i:=4) (d:=some 12) (v:=?_) rfl rfl (by kernel_rfl) (by kernel_rfl) (by kernel_rfl) (fun _ _ _ h=>h) (by kernel_rfl) ?hyq_12 (by assumption) ?restq_12;(case hyq_12=>(intro W9 hSw;(try dsimp only at hSw);go_simp;try (with_reducible rfl)));(try simp only [Act.put,nA,nB,nC]);refine nM (i:=5) (by kernel_rfl) rfl fun K hK=>?_;go_simp;(go_at_call 58);refine (sign_any en _).mono ?_;rintro e9 X ⟨rfl,hbX⟩;have HCX:=h_ (HCd.out.below hbX HCd.out.lt);have HPX:=h_ (HPd.out.next hbX);have y7:=HCX.out.cell (j:=7) (by simp);simp only [nD,nE] at y7;(go_wp2_with fail);refine hK.out _ _ y7 (fun hH=>?_);clear hK K;(try simp only [Act.put,nA,nB,nC]);refine nM (i:=6) (by kernel_rfl) rfl fun K hK=>?_;go_simp;(go_at_call 59);refine (take_any HPX.out ⟨4,en,0,0⟩ (show (4:Int)≠0 by decide)).mono ?_;rintro e9 Y ⟨rfl,hpY,hgY⟩;have z7:=(World.cell?_of_block (a:=⟨w.heap.size,7,none⟩) (hgY.block w.heap.size HCX.out.lt (fun q=>by injection q with q;omega))).trans y7;(go_wp2_with fail);refine hK.out _ _ z7 (fun hH=>?_);clear hK K;(try simp only [Act.put,nA,nB,nC]);refine heldTake (i:=7) (d:=some 4) (v:=?_) rfl rfl (by kernel_rfl) (by kernel_rfl) (by kernel_rfl) (fun _ _ _ h=>h) (by kernel_rfl) ?hyq_13 (by assumption) ?restq_13;(case hyq_13=>(intro W9 hSw;(try dsimp only at hSw);go_simp;try (with_reducible rfl)));(try simp only [Act.put,nA,nB,nC]);refine wpAnyH_done (by kernel_rfl) ?_ _;(go_wp2_with fail);go_ret;exact ⟨rfl,hpY,grown_trans (grown_below HBd.out _) (grown_trans (grown_below hbX _) hgY)⟩
end
end Go.Proofs.Ytflhcdcifilfcaa
