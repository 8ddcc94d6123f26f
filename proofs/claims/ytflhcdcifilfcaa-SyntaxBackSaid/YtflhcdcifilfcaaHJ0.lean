/-
  Merged for a claim: KX, KM, KZ, SYA, SYB.
-/
import Derived.WalkKit
import Derived.ProofKit
import Derived.OpenShut
import Derived.Below
import Derived.Laws.OwnMore
import Derived.Deep.AppendLies
import Derived.Deep.Draws
import Derived.Maps.AppendAt
namespace Go.Proofs.Ytflhcdcifilfcaa
open Go.ChangeShapes Go.WideShapes Go.ChangeAt Go.RowKit

section
variable {H:Type} {enc:TypeId×Value→H} {P:Program}

def rowed (P:Program) (ts:List TypeId):Bool:=ts.all fun t=>P.readableRec t && decide (t < P.types.size)

theorem trodAll_kept (hl:laidOutB P=true) {W W':World} (hb:Below W.heap.size W W') :
 ∀ {ts:List TypeId} {vs:List Value} {ds:List (DataW H)} {ps:List MemPlace},rowed P ts=true→DataW.TrodAll enc P W 0 (fun _=>true) true ts vs ds ps→(∀ x∈ps,x.block < W.heap.size) →
  DataW.TrodAll enc P W' 0 (fun b=>decide (b < W.heap.size)) true ts vs ds ps
 | [],_,_,_,_,h,_=>by
  obtain ⟨rfl,rfl,rfl⟩:=trodAll_nil h;exact trodAll_mk0
 | t::ts,_,_,_,hr,h,hlt=>by
  obtain ⟨v,vs',d,ds',p,q,rfl,rfl,rfl,h1,h2⟩:=trodAll_cons h;simp only [rowed,List.all_cons,Bool.and_eq_true,decide_eq_true_eq] at hr;exact trodAll_cons_mk (Below.trod hl hr.1.1 hr.1.2 h1 hb (fun x hx=>hlt x (List.mem_append_left _ hx)))
   (trodAll_kept hl hb (by simpa [rowed] using hr.2) h2 (fun x hx=>hlt x (List.mem_append_right _ hx)))

theorem law_post {f:Func} {s:ChangeSpec} {apart handsOn:Bool} {W W':World} {args:Array Value} {ds:List (DataW H)} {before:List MemPlace} {tb:TypeId}
 (hl:laidOutB P=true) (hrow:rowed P f.params.toList=true) (hv:s.vars=[]) (hres:f.resultTypes=#[tb]) (htb:P.underlying tb=some .bool)
 (hr:(s.fn H (ds++[])).results=[.lit (.bool true)]) (ha:(s.fn H (ds++[])).args=ds) (hvs:(s.fn H (ds++[])).vars=[])
 (hW:DataW.Whole enc P f.params.toList s.vars apart W args.toList ds [] before) (hb:Below W.heap.size W W') :
 s.post enc P f apart true handsOn false W args (.bool true) W':=by
 have hlt:∀ p∈before,p.block < W.heap.size:=fun p hp=>hW.lt p hp
 have hW0:=hW;obtain ⟨p,q,h1,h2,rfl,_,_⟩:=hW;rw [hv] at h2;obtain ⟨_,rfl⟩:=trodVars_none h2;refine ⟨ds,[],_,[],p,[],hW0,?_,?_,?_,World.keptBut_mono (fun x hx=>⟨by simpa using hx,.inr (.inl hx)⟩) (hb.frame (· ∈ p)),fun h=>by cases h⟩
 · rw [hr,hres];exact trodAll_mk1 (shut_bool htb true)
 · rw [ha];exact trodAll_kept hl hb hrow h1 (fun x hx=>hlt x (List.mem_append_left _ hx))
 · rw [hvs,hv];exact rfl
end

end Go.Proofs.Ytflhcdcifilfcaa

namespace Go.Proofs.Ytflhcdcifilfcaa
open Go.RowKit

def Lies (w:World) (B:Nat) (A:Option Addr) (l:List UInt8):Prop:=
 0 < l.length→∃ g o,A=some ⟨g,o,none⟩∧g < B∧∀ j (h:j < l.length),w.cell? ⟨g,o+j,none⟩=some (.int .u8 (l[j].toNat:Int))

theorem below_draws {B:Nat} {w:World} (n:Nat):Below B w (w.drewN n):=⟨rfl,rfl,rfl,Nat.le_refl _,fun _ _=>rfl⟩

section
variable {w w':World} {B B':Nat} {A:Option Addr} {l:List UInt8}
theorem Lies.empty (w:World) (B:Nat) (A:Option Addr):Lies w B A []:=fun h=>absurd h (by simp)
theorem Lies.keep (h:Lies w B A l) (hk:∀ p:Addr,p.block < B→w'.cell? p=w.cell? p):Lies w' B A l:=fun hl=>by
 obtain ⟨g,o,e,hg,hc⟩:=h hl;exact ⟨g,o,e,hg,fun j hj=>(hk _ hg).trans (hc j hj)⟩
theorem Lies.more (h:Lies w B A l) (hB:B≤B'):Lies w B' A l:=fun hl=>by
 obtain ⟨g,o,e,hg,hc⟩:=h hl;exact ⟨g,o,e,by omega,hc⟩
theorem Lies.below (h:Lies w B A l) (hb:Below B w w'):Lies w' B A l:=h.keep fun _ hp=>hb.cell hp
theorem Lies.at_ (h:Lies w B A l) {j:Nat} (hj:j < l.length):∃ g o,A=some ⟨g,o,none⟩∧g < B∧w.cell? ⟨g,o+j,none⟩=some (.int .u8 (l[j].toNat:Int)):=by
 obtain ⟨g,o,e,hg,hc⟩:=h (by omega);exact ⟨g,o,e,hg,hc j hj⟩
end

end Go.Proofs.Ytflhcdcifilfcaa

namespace Go.Proofs.Ytflhcdcifilfcaa
open Go.ChangeShapes Go.WideShapes Go.ChangeAt Go.RowKit

end Go.Proofs.Ytflhcdcifilfcaa

namespace Go.Proofs.Ytflhcdcifilfcaa
open Go

structure To where
 kd:Int
 tx:List UInt8
 nu:Int
 ln:Int
inductive Ex where
 | mk (kd nu:Int) (nm fl op:List UInt8) (ks:List Ex)
inductive R (α:Type) where
 | ok (x:α) (u:List To)
 | bad (u:List To)
 | out
namespace R
variable {α β γ:Type}
def bind:R α→(α→List To→R β)→R β
 | .ok x u,f=>f x u
 | .bad u,_=> .bad u
 | .out,_=> .out
theorem bind_ok (x:α) (u:List To) (f:α→List To→R β):(R.ok x u).bind f=f x u:=rfl
theorem bind_assoc (r:R α) (f:α→List To→R β) (g:β→List To→R γ):(r.bind f).bind g=r.bind fun x u=>(f x u).bind g:=by cases r<;>rfl
theorem bind_ne {r:R α} {f:α→List To→R β} (h:r.bind f ≠ .out):r ≠ .out:=by
 intro e;subst e;exact h rfl
end R
def isT (kd:Int) (tx:List UInt8) (u:List To):Bool:=match u with
 | []=>false
 | t::_=>decide (t.kd=kd) && decide (t.tx=tx)
def isS (tx:List UInt8) (u:List To):Bool:=isT 4 tx u
def isW (tx:List UInt8) (u:List To):Bool:=isT 3 tx u
def isK (kd:Int) (u:List To):Bool:=match u with
 | []=>false
 | t::_=>decide (t.kd=kd)
def takeS {α:Type} (tx:List UInt8) (u:List To) (f:List To→R α):R α:=if isS tx u=true then f u.tail else .bad u
def takeW {α:Type} (tx:List UInt8) (u:List To) (f:List To→R α):R α:=if isW tx u=true then f u.tail else .bad u
def hd (u:List To):To:=u.headD ⟨0,[],0,0⟩
def takeK {α:Type} (kd:Int) (u:List To) (f:To→List To→R α):R α:=if isK kd u=true then f (hd u) u.tail else .bad u
def bnd (tx:List UInt8):Nat:=
 if tx=[124,124] then 1 else if tx=[38,38] then 2
 else if tx=[61,61]∨tx=[33,61]∨tx=[60]∨tx=[60,61]∨tx=[62]∨tx=[62,61] then 3
 else if tx=[43]∨tx=[45] then 4 else if tx=[42]∨tx=[47]∨tx=[37] then 5 else 0
def bndU (u:List To):Nat:=if isK 4 u=true then bnd (hd u).tx else 0
def eNum (n:Int):Ex:= .mk 1 n [] [] [] []
def eBool (n:Int):Ex:= .mk 2 n [] [] [] []
def eVar (nm:List UInt8):Ex:= .mk 3 0 nm [] [] []
def eElem (nm:List UInt8) (x:Ex):Ex:= .mk 4 0 nm [] [] [x]
def eField (nm fl:List UInt8):Ex:= .mk 5 0 nm fl [] []
def eUn (op:List UInt8) (x:Ex):Ex:= .mk 6 0 [] [] op [x]
def eBin (op:List UInt8) (x y:Ex):Ex:= .mk 7 0 [] [] op [x,y]
def wTrue:List UInt8:=[116,114,117,101]
def wFalse:List UInt8:=[102,97,108,115,101]
def leafN (nm:List UInt8) (u:List To):R Ex:=if isS [46] u=true then takeK 1 u.tail fun t v=> .ok (eField nm t.tx) v else .ok (eVar nm) u
def leafP (u:List To):R Ex:=
 if isK 2 u=true then .ok (eNum (hd u).nu) u.tail
 else if isW wTrue u=true then .ok (eBool 1) u.tail
 else if isW wFalse u=true then .ok (eBool 0) u.tail
 else takeK 1 u fun t v=>leafN t.tx v
def isU (u:List To):Bool:=isS [45] u || isS [33] u
def isE (u:List To):Bool:=isK 1 u && isS [91] u.tail
mutual
def prim:Nat→List To→R Ex
 | 0,_=> .out
 | n+1,u=>
  if isU u=true then (prim n u.tail).bind fun x v=> .ok (eUn (hd u).tx x) v
  else if isS [40] u=true then (lev n 0 u.tail).bind fun x v=>takeS [41] v fun v2=> .ok x v2
  else if isE u=true then (lev n 0 u.tail.tail).bind fun x v=>takeS [93] v fun v2=> .ok (eElem (hd u).tx x) v2
  else leafP u
def lev:Nat→Nat→List To→R Ex
 | 0,_,_=> .out
 | n+1,k,u=>if 5≤k then prim n u else (lev n (k+1) u).bind fun x v=>lop n k x v
def lop:Nat→Nat→Ex→List To→R Ex
 | 0,_,_,_=> .out
 | n+1,k,x,u=>if bndU u=k+1 then (lev n (k+1) u.tail).bind fun y v=>lop n k (eBin (hd u).tx x y) v else .ok x u
end
theorem tail_len {u:List To} (h:u≠[]):u.tail.length+1=u.length:=by
 cases u with
 | nil=>exact absurd rfl h
 | cons t v=>rfl
theorem isT_ne {kd:Int} {tx:List UInt8} {u:List To} (h:isT kd tx u=true):u≠[]:=by
 rintro rfl;cases h
theorem isS_ne {tx:List UInt8} {u:List To} (h:isS tx u=true):u≠[]:=isT_ne h
theorem isW_ne {tx:List UInt8} {u:List To} (h:isW tx u=true):u≠[]:=isT_ne h
theorem isK_ne {kd:Int} {u:List To} (h:isK kd u=true):u≠[]:=by
 rintro rfl;cases h
theorem isU_ne {u:List To} (h:isU u=true):u≠[]:=by
 rintro rfl;cases h
theorem isE_ne {u:List To} (h:isE u=true):u≠[]∧u.tail≠[]:=by
 unfold isE at h;rw [Bool.and_eq_true] at h;exact ⟨isK_ne h.1,isS_ne h.2⟩
theorem bndU_ne {u:List To} {k:Nat} (h:bndU u=k+1):u≠[]:=by
 rintro rfl;cases h
theorem leafN_len {nm:List UInt8} {u v:List To} {x:Ex} (h:leafN nm u = .ok x v):v.length≤u.length:=by
 unfold leafN at h;split at h
 · rename_i hs;have h1:=tail_len (isS_ne hs);unfold takeK at h;split at h
   · rename_i hk;have h2:=tail_len (isK_ne hk);injection h with _ h;subst h;omega
   · cases h
 · injection h with _ h;subst h;exact Nat.le_refl _
theorem leafP_len {u v:List To} {x:Ex} (h:leafP u = .ok x v):v.length+1≤u.length:=by
 unfold leafP at h;split at h
 · rename_i hk;have:=tail_len (isK_ne hk);injection h with _ h;subst h;omega
 · split at h
   · rename_i hk;have:=tail_len (isW_ne hk);injection h with _ h;subst h;omega
   · split at h
     · rename_i hk;have:=tail_len (isW_ne hk);injection h with _ h;subst h;omega
     · unfold takeK at h;split at h
       · rename_i hk;have:=tail_len (isK_ne hk);have:=leafN_len h;omega
       · cases h
theorem leafN_out (nm:List UInt8) (u:List To):leafN nm u ≠ .out:=by
 unfold leafN takeK;intro h;split at h
 · split at h<;>cases h
 · cases h
theorem leafP_out (u:List To):leafP u ≠ .out:=by
 unfold leafP takeK;intro h;split at h
 · cases h
 · split at h
   · cases h
   · split at h
     · cases h
     · split at h
       · exact leafN_out _ _ h
       · cases h
theorem takeS_len {α:Type} {tx:List UInt8} {u v:List To} {f:List To→R α} {x:α} (h:takeS tx u f = .ok x v):u≠[]∧f u.tail = .ok x v:=by
 unfold takeS at h;split at h
 · rename_i hs;exact ⟨isS_ne hs,h⟩
 · cases h
theorem bind_is {α β:Type} {r:R α} {f:α→List To→R β} {y:β} {w:List To} (h:r.bind f = .ok y w):∃ x u,r = .ok x u∧f x u = .ok y w:=by
 cases r with
 | ok x u=>exact ⟨x,u,rfl,h⟩
 | bad u=>cases h
 | out=>cases h
theorem enough:∀ n,(∀ u,(8*u.length+1≤n→prim n u ≠ .out)∧∀ x v,prim n u = .ok x v→v.length+1≤u.length)
 ∧ (∀ k u,(8*u.length+7≤n+k→k≤5→0 < n→lev n k u ≠ .out)∧∀ x v,lev n k u = .ok x v→v.length+1≤u.length)
 ∧ (∀ k y u,(8*u.length+1≤n→k < 5→lop n k y u ≠ .out)∧∀ x v,lop n k y u = .ok x v→v.length≤u.length)
 | 0=>⟨fun u=>⟨fun h=>absurd h (by omega),fun x v h=>by cases h⟩,fun k u=>⟨fun _ _ h=>absurd h (by omega),fun x v h=>by cases h⟩,fun k y u=>⟨fun h=>absurd h (by omega),fun x v h=>by cases h⟩⟩
 | n+1=>by
  obtain ⟨hp,hl,ho⟩:=enough n;refine ⟨fun u=>⟨fun hn=>?_,fun x v h=>?_⟩,fun k u=>⟨fun hn hk _=>?_,fun x v h=>?_⟩,fun k y u=>⟨fun hn hk=>?_,fun x v h=>?_⟩⟩
  · unfold prim;split
    · rename_i hu;have:=tail_len (isU_ne hu);intro e;rcases hr:prim n u.tail with ⟨x,v⟩ | v | _
      · rw [hr] at e;cases e
      · rw [hr] at e;cases e
      · exact (hp u.tail).1 (by omega) hr
    · split
      · rename_i hu;have:=tail_len (isS_ne hu);intro e;rcases hr:lev n 0 u.tail with ⟨x,v⟩ | v | _
        · rw [hr,R.bind_ok] at e;unfold takeS at e;split at e<;>cases e
        · rw [hr] at e;cases e
        · exact (hl 0 u.tail).1 (by omega) (by omega) (by omega) hr
      · split
        · rename_i hu;have:=tail_len (isE_ne hu).1;have:=tail_len (isE_ne hu).2;intro e;rcases hr:lev n 0 u.tail.tail with ⟨x,v⟩ | v | _
          · rw [hr,R.bind_ok] at e;unfold takeS at e;split at e<;>cases e
          · rw [hr] at e;cases e
          · exact (hl 0 u.tail.tail).1 (by omega) (by omega) (by omega) hr
        · exact leafP_out u
  · unfold prim at h;split at h
    · rename_i hu;have:=tail_len (isU_ne hu);obtain ⟨y,w,h1,h2⟩:=bind_is h;have:=(hp _).2 _ _ h1;injection h2 with _ h2;subst h2;omega
    · split at h
      · rename_i hu;have:=tail_len (isS_ne hu);obtain ⟨y,w,h1,h2⟩:=bind_is h;have:=(hl _ _).2 _ _ h1;obtain ⟨h3,h4⟩:=takeS_len h2;have:=tail_len h3;injection h4 with _ h4;subst h4;omega
      · split at h
        · rename_i hu;have:=tail_len (isE_ne hu).1;have:=tail_len (isE_ne hu).2;obtain ⟨y,w,h1,h2⟩:=bind_is h;have:=(hl _ _).2 _ _ h1;obtain ⟨h3,h4⟩:=takeS_len h2;have:=tail_len h3;injection h4 with _ h4;subst h4;omega
        · exact leafP_len h
  · unfold lev;split
    · exact (hp u).1 (by omega)
    · intro e;rcases hr:lev n (k+1) u with ⟨x,v⟩ | v | _
      · rw [hr,R.bind_ok] at e;have:=(hl _ _).2 _ _ hr;exact (ho k x v).1 (by omega) (by omega) e
      · rw [hr] at e;cases e
      · exact (hl (k+1) u).1 (by omega) (by omega) (by omega) hr
  · unfold lev at h;split at h
    · exact (hp u).2 _ _ h
    · obtain ⟨y,w,h1,h2⟩:=bind_is h;have:=(hl _ _).2 _ _ h1;have:=(ho _ _ _).2 _ _ h2;omega
  · unfold lop;split
    · rename_i hu;have:=tail_len (bndU_ne hu);intro e;rcases hr:lev n (k+1) u.tail with ⟨x,v⟩ | v | _
      · rw [hr,R.bind_ok] at e;have:=(hl _ _).2 _ _ hr;exact (ho k _ v).1 (by omega) (by omega) e
      · rw [hr] at e;cases e
      · exact (hl (k+1) u.tail).1 (by omega) (by omega) (by omega) hr
    · intro e;cases e
  · unfold lop at h;split at h
    · rename_i hu;have:=tail_len (bndU_ne hu);obtain ⟨z,w,h1,h2⟩:=bind_is h;have:=(hl _ _).2 _ _ h1;have:=(ho _ _ _).2 _ _ h2;omega
    · injection h with _ h;subst h;exact Nat.le_refl _
end Go.Proofs.Ytflhcdcifilfcaa

namespace Go.Proofs.Ytflhcdcifilfcaa
open Go

inductive Ha where
 | un (op:List UInt8)
 | par
 | elem (nm:List UInt8)
 | bin (op:List UInt8) (x:Ex) (b:Nat)
namespace Ha
def fin:Ha→Ex→Ex
 | .un op,y=>eUn op y
 | .par,y=>y
 | .elem nm,y=>eElem nm y
 | .bin op x _,y=>eBin op x y
def b:Ha→Nat
 | .un _=>6
 | .par=>0
 | .elem _=>0
 | .bin _ _ b=>b
def en:Ha→List UInt8
 | .par=>[41]
 | .elem _=>[93]
 | _=>[]
def ends (h:Ha) (u:List To):Bool:=if h.en=[] then decide (bndU u≤h.b) else isS h.en u
def rest (h:Ha) (u:List To):List To:=if h.en=[] then u else u.tail
end Ha
def topB (o:List Ha):Nat:=match o with
 | []=>0
 | h::_=>h.b
def endsL:List Ha→Ex→List To→Ex×List Ha×List To
 | [],x,u=>(x,[],u)
 | h::o,x,u=>if h.ends u=true then endsL o (h.fin x) (h.rest u) else (x,h::o,u)
def mach:Nat→List Ha→List To→R Ex
 | 0,_,_=> .out
 | n+1,o,u=>
  if isU u=true then mach n (.un (hd u).tx::o) u.tail
  else if isS [40] u=true then mach n (.par::o) u.tail
  else if isE u=true then mach n (.elem (hd u).tx::o) u.tail.tail
  else (leafP u).bind fun x v=>
   if bndU (endsL o x v).2.2=0 then (if (endsL o x v).2.1=[] then .ok (endsL o x v).1 (endsL o x v).2.2 else .bad (endsL o x v).2.2)
   else mach n (.bin (hd (endsL o x v).2.2).tx (endsL o x v).1 (bndU (endsL o x v).2.2)::(endsL o x v).2.1) (endsL o x v).2.2.tail
theorem rest_len (h:Ha) (u:List To):(h.rest u).length≤u.length:=by
 unfold Ha.rest;split
 · exact Nat.le_refl _
 · simp
theorem endsL_len (o:List Ha):∀ (x:Ex) (u:List To),(endsL o x u).2.2.length≤u.length:=by
 induction o with
 | nil=>exact fun _ _=>Nat.le_refl _
 | cons h o ih=>
  intro x u;unfold endsL;split
  · exact Nat.le_trans (ih _ _) (rest_len h u)
  · exact Nat.le_refl _
theorem bndU_pos {u:List To} (h:¬ bndU u=0):u≠[]:=by
 rintro rfl;exact h rfl
theorem mach_more:∀ (n m:Nat) (o:List Ha) (u:List To),u.length+1≤n→u.length+1≤m→mach n o u=mach m o u
 | 0,_,_,_,h,_=>absurd h (by omega)
 | _+1,0,_,_,_,h=>absurd h (by omega)
 | n+1,m+1,o,u,hn,hm=>by
  unfold mach;split
  · rename_i hu;have:=tail_len (isU_ne hu);exact mach_more n m _ _ (by omega) (by omega)
  · split
    · rename_i hu;have:=tail_len (isS_ne hu);exact mach_more n m _ _ (by omega) (by omega)
    · split
      · rename_i hu;have:=tail_len (isE_ne hu).1;have:=tail_len (isE_ne hu).2;exact mach_more n m _ _ (by omega) (by omega)
      · rcases hl:leafP u with ⟨x,v⟩ | v | _
        · rw [R.bind_ok,R.bind_ok];split
          · rfl
          · rename_i hb;have:=leafP_len hl;have:=endsL_len o x v;have:=tail_len (bndU_pos hb);exact mach_more n m _ _ (by omega) (by omega)
        · rfl
        · rfl
def M (o:List Ha) (u:List To):R Ex:=mach (u.length+1) o u
def Af (o:List Ha) (x:Ex) (v:List To):R Ex:=
 if bndU (endsL o x v).2.2=0 then (if (endsL o x v).2.1=[] then .ok (endsL o x v).1 (endsL o x v).2.2 else .bad (endsL o x v).2.2)
 else M (.bin (hd (endsL o x v).2.2).tx (endsL o x v).1 (bndU (endsL o x v).2.2)::(endsL o x v).2.1) (endsL o x v).2.2.tail
theorem M_eq (o:List Ha) (u:List To):M o u =
 if isU u=true then M (.un (hd u).tx::o) u.tail
 else if isS [40] u=true then M (.par::o) u.tail
 else if isE u=true then M (.elem (hd u).tx::o) u.tail.tail
 else (leafP u).bind (Af o):=by
 unfold M;rw [mach];split
 · rename_i hu;have:=tail_len (isU_ne hu);exact mach_more _ _ _ _ (by omega) (by omega)
 · split
   · rename_i hu;have:=tail_len (isS_ne hu);exact mach_more _ _ _ _ (by omega) (by omega)
   · split
     · rename_i hu;have:=tail_len (isE_ne hu).1;have:=tail_len (isE_ne hu).2;exact mach_more _ _ _ _ (by omega) (by omega)
     · rcases hl:leafP u with ⟨x,v⟩ | v | _
       · rw [R.bind_ok,R.bind_ok];unfold Af M;split
         · rfl
         · rename_i hb;have:=leafP_len hl;have:=endsL_len o x v;have:=tail_len (bndU_pos hb);exact mach_more _ _ _ _ (by omega) (by omega)
       · rfl
       · rfl
theorem Af_pop {h:Ha} {o:List Ha} {x:Ex} {v:List To} (he:h.ends v=true):Af (h::o) x v=Af o (h.fin x) (h.rest v):=by
 unfold Af;have e:endsL (h::o) x v=endsL o (h.fin x) (h.rest v):=by rw [endsL,if_pos he]
 rw [e]
theorem Af_stay {o:List Ha} {x:Ex} {v:List To} (he:∀ h o',o=h::o'→h.ends v=false) :
 Af o x v=if bndU v=0 then (if o=[] then .ok x v else .bad v) else M (.bin (hd v).tx x (bndU v)::o) v.tail:=by
 have e:endsL o x v=(x,o,v):=by
  cases o with
  | nil=>rfl
  | cons h o=>rw [endsL,if_neg (by rw [he h o rfl];decide)]
 unfold Af;rw [e]
theorem bndU_le (u:List To):bndU u≤5:=by
 unfold bndU bnd
 repeat' split
 all_goals omega
theorem bndU_sign {u:List To} {s:List UInt8} (h:isS s u=true) (hb:bnd s=0):bndU u=0:=by
 cases u with
 | nil=>cases h
 | cons t v=>
  unfold isS isT at h;simp only [Bool.and_eq_true,decide_eq_true_eq] at h;unfold bndU;split
  · show bnd t.tx=0;rw [h.2];exact hb
  · rfl
theorem lev_next:∀ n,(∀ k u x v,k≤5→lev n k u = .ok x v→bndU v≤k)∧∀ k y u x v,k < 5→bndU u≤k+1→lop n k y u = .ok x v→bndU v≤k
 | 0=>⟨fun k u x v _ h=>(by cases h),fun k y u x v _ _ h=>(by cases h)⟩
 | n+1=>by
  obtain ⟨hl,ho⟩:=lev_next n;refine ⟨fun k u x v hk h=>?_,fun k y u x v hk hu h=>?_⟩
  · unfold lev at h;split at h
    · have:=bndU_le v;omega
    · obtain ⟨y,w,h1,h2⟩:=bind_is h;exact ho k y w x v (by omega) (hl _ _ _ _ (by omega) h1) h2
  · unfold lop at h;split at h
    · obtain ⟨z,w,h1,h2⟩:=bind_is h;exact ho k _ w x v hk (hl _ _ _ _ (by omega) h1) h2
    · injection h with _ h;subst h;omega
theorem mach_lev:∀ n,(∀ u o,prim n u ≠ .out→M o u=(prim n u).bind (Af o))
 ∧ (∀ k u o,k≤5→topB o≤k→lev n k u ≠ .out→M o u=(lev n k u).bind (Af o))
 ∧ ∀ k x u o,k < 5→topB o≤k→lop n k x u ≠ .out→Af o x u=(lop n k x u).bind (Af o)
 | 0=>⟨fun u o h=>absurd rfl h,fun k u o _ _ h=>absurd rfl h,fun k x u o _ _ h=>absurd rfl h⟩
 | n+1=>by
  obtain ⟨hp,hl,ho⟩:=mach_lev n;refine ⟨fun u o h=>?_,fun k u o hk ht h=>?_,fun k x u o hk ht h=>?_⟩
  · unfold prim at h ⊢;rw [M_eq];split at h
    · rename_i hu;rw [if_pos hu,if_pos hu,hp _ _ (R.bind_ne h),R.bind_assoc];congr 1;funext x v;exact Af_pop (h:= .un _) (decide_eq_true (show bndU v≤6 by have:=bndU_le v;omega))
    · rename_i hu;rw [if_neg hu,if_neg hu];split at h
      · rename_i hs;rw [if_pos hs,if_pos hs,hl 0 _ _ (by omega) (Nat.le_refl _) (R.bind_ne h),R.bind_assoc];rcases hr:lev n 0 u.tail with ⟨x,v⟩ | v | _
        · rw [R.bind_ok,R.bind_ok];have hb:=(lev_next n).1 _ _ _ _ (by omega) hr;unfold takeS;split
          · rename_i hc;exact Af_pop (h:= .par) hc
          · rename_i hc;rw [Af_stay (fun h o' e=>by injection e with e _;subst e;exact Bool.eq_false_iff.2 hc),if_pos (by omega),if_neg (by simp)];rfl
        · rfl
        · rfl
      · rename_i hs;rw [if_neg hs,if_neg hs];split at h
        · rename_i he;rw [if_pos he,if_pos he,hl 0 _ _ (by omega) (Nat.le_refl _) (R.bind_ne h),R.bind_assoc];rcases hr:lev n 0 u.tail.tail with ⟨x,v⟩ | v | _
          · rw [R.bind_ok,R.bind_ok];have hb:=(lev_next n).1 _ _ _ _ (by omega) hr;unfold takeS;split
            · rename_i hc;exact Af_pop (h:= .elem _) hc
            · rename_i hc;rw [Af_stay (fun h o' e=>by injection e with e _;subst e;exact Bool.eq_false_iff.2 hc),if_pos (by omega),if_neg (by simp)];rfl
          · rfl
          · rfl
        · rename_i he;rw [if_neg he,if_neg he]
  · unfold lev at h ⊢;split at h
    · rename_i h5;rw [if_pos h5];exact hp _ _ h
    · rename_i h5;rw [if_neg h5,hl (k+1) u o (by omega) (by omega) (R.bind_ne h),R.bind_assoc];rcases hr:lev n (k+1) u with ⟨x,v⟩ | v | _
      · rw [hr] at h;rw [R.bind_ok,R.bind_ok];exact ho k x v o (by omega) ht h
      · rfl
      · rfl
  · unfold lop at h ⊢;split at h
    · rename_i hb;rw [if_pos hb,Af_stay,if_neg (by omega),hb,hl (k+1) _ _ (by omega) (Nat.le_refl _) (R.bind_ne h),R.bind_assoc]
      · rcases hr:lev n (k+1) u.tail with ⟨y,v⟩ | v | _
        · rw [hr] at h;rw [R.bind_ok,R.bind_ok,← ho k _ v o hk ht h];have h1:=(lev_next n).1 _ _ _ _ (by omega) hr;exact Af_pop (h:= .bin _ _ _) (decide_eq_true (show bndU v≤k+1 from h1))
        · rfl
        · rfl
      · intro h9 o' e;subst e;rcases h9 with op | _ | nm | ⟨op,y,b⟩
        · exact absurd (show 6≤k from ht) (by omega)
        · exact Bool.eq_false_iff.2 fun hc=>by have:=bndU_sign (s:=[41]) hc rfl;omega
        · exact Bool.eq_false_iff.2 fun hc=>by have:=bndU_sign (s:=[93]) hc rfl;omega
        · exact decide_eq_false (show ¬ bndU u≤b by have h8:b≤k:=ht;omega)
    · rename_i hb;rw [if_neg hb];rfl
def exP (u:List To):R Ex:=lev (8*u.length+8) 0 u
theorem exP_ne (u:List To):exP u ≠ .out:=((enough _).2.1 0 u).1 (by omega) (by omega) (by omega)
theorem exP_len {u v:List To} {x:Ex} (h:exP u = .ok x v):v.length+1≤u.length:=((enough _).2.1 0 u).2 _ _ h
theorem M_exP (u:List To):M [] u=exP u:=by
 rw [(mach_lev (8*u.length+8)).2.1 0 u [] (by omega) (Nat.le_refl _) (exP_ne u)];show (exP u).bind _=exP u;rcases hr:exP u with ⟨x,v⟩ | v | _
 · rw [R.bind_ok];have hb:=(lev_next _).1 _ _ _ _ (by omega) hr;rw [Af_stay (fun h o' e=>by cases e),if_pos (by omega),if_pos rfl]
 · rfl
 · rfl
end Go.Proofs.Ytflhcdcifilfcaa
