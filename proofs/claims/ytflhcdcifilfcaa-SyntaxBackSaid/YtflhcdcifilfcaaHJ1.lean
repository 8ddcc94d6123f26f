/-
  Merged for a claim: SYC, SYD, SYE, KO.
-/
import Derived.Test.YtflhcdcifilfcaaHJ0
import Derived.Test.YtflhcdcifilfcaaProg
import Derived.OwnWalk
import Derived.Maps.AppendAt
import Derived.WalkKit
import Derived.Lib.Hide
namespace Go.Proofs.Ytflhcdcifilfcaa
open Go

structure Ty where
 kd:Int
 n:Int
 nm:List UInt8
def ty0:Ty:=⟨0,0,[]⟩
inductive St where
 | mk (kd ln:Int) (nm fl cl:List UInt8) (ty:Ty) (ks:List Ex) (bd el:List St)
def St.kd:St→Int | .mk kd _ _ _ _ _ _ _ _=>kd
def St.setB:St→List St→St | .mk kd ln nm fl cl ty ks _ el,b=> .mk kd ln nm fl cl ty ks b el
def St.setE:St→List St→St | .mk kd ln nm fl cl ty ks bd _,e=> .mk kd ln nm fl cl ty ks bd e
def stm (kd ln:Int) (nm fl cl:List UInt8) (ty:Ty) (ks:List Ex):St:= .mk kd ln nm fl cl ty ks [] []
def wInt:List UInt8:=[105,110,116]
def wBool:List UInt8:=[98,111,111,108]
def wIf:List UInt8:=[105,102]
def wFor:List UInt8:=[102,111,114]
def wElse:List UInt8:=[101,108,115,101]
def wVar:List UInt8:=[118,97,114]
def wPrint:List UInt8:=[112,114,105,110,116]
def wReturn:List UInt8:=[114,101,116,117,114,110]
def wInput:List UInt8:=[105,110,112,117,116]
def tyP (u:List To):R Ty:=
 if isW wInt u=true then .ok ⟨1,0,[]⟩ u.tail
 else if isW wBool u=true then .ok ⟨2,0,[]⟩ u.tail
 else if isS [91] u=true then takeK 2 u.tail fun t v=>takeS [93] v fun w=>takeW wInt w fun z=> .ok ⟨3,t.nu,[]⟩ z
 else takeK 1 u fun t v=> .ok ⟨4,0,t.tx⟩ v
def comP {α:Type} (one:List To→R α):Nat→List To→R (List α)
 | 0,_=> .out
 | n+1,u=>(one u).bind fun x v=>if isS [44] v=true then (comP one n v.tail).bind fun l w=> .ok (x::l) w else takeS [41] v fun w=> .ok [x] w
def lisP {α:Type} (one:List To→R α) (u:List To):R (List α):=if isS [41] u=true then .ok [] u.tail else comP one (u.length+1) u
def argP (u:List To):R (List Ex):=lisP exP u
def isC (u:List To):Bool:=isK 1 u && isS [40] u.tail
def semi (s:St) (u:List To):R St:=takeS [59] u fun v=> .ok s v
def setP (ln:Int) (nm:List UInt8) (u:List To):R St:=
 if isW wInput u=true then takeS [40] u.tail fun v=>takeS [41] v fun w=> .ok (stm 9 ln nm [] [] ty0 []) w
 else if isC u=true then (argP u.tail.tail).bind fun l v=> .ok (stm 5 ln nm [] (hd u).tx ty0 l) v
 else (exP u).bind fun x v=> .ok (stm 2 ln nm [] [] ty0 [x]) v
def nmdP (ln:Int) (u:List To):R St:=
 if isC u=true then (argP u.tail.tail).bind fun l v=> .ok (stm 5 ln [] [] (hd u).tx ty0 l) v
 else takeK 1 u fun t v=>
  if isS [91] v=true then (exP v.tail).bind fun x w=>takeS [93] w fun z=>takeS [61] z fun y=>(exP y).bind fun e q=> .ok (stm 3 ln t.tx [] [] ty0 [x,e]) q
  else if isS [46] v=true then takeK 1 v.tail fun f w=>takeS [61] w fun z=>(exP z).bind fun x q=> .ok (stm 4 ln t.tx f.tx [] ty0 [x]) q
  else takeS [61] v fun w=>setP ln t.tx w
def varP (ln:Int) (u:List To):R St:=
 takeK 1 u fun t v=>(tyP v).bind fun ty w=>if isS [61] w=true then (exP w.tail).bind fun x z=> .ok (stm 1 ln t.tx [] [] ty [x]) z else .ok (stm 1 ln t.tx [] [] ty []) w
def hdP (u:List To):R St:=
 if isW wIf u=true then (exP u.tail).bind fun x v=> .ok (stm 6 (hd u).ln [] [] [] ty0 [x]) v
 else if isW wFor u=true then (exP u.tail).bind fun x v=> .ok (stm 7 (hd u).ln [] [] [] ty0 [x]) v
 else if isW wVar u=true then (varP (hd u).ln u.tail).bind semi
 else if isW wPrint u=true then takeS [40] u.tail fun v=>(exP v).bind fun x w=>takeS [41] w fun z=>semi (stm 8 (hd u).ln [] [] [] ty0 [x]) z
 else if isW wReturn u=true then (if isS [59] u.tail=true then semi (stm 10 (hd u).ln [] [] [] ty0 []) u.tail else (exP u.tail).bind fun x v=>semi (stm 10 (hd u).ln [] [] [] ty0 [x]) v)
 else (nmdP (hd u).ln u).bind semi
mutual
def staP:Nat→List To→R St
 | 0,_=> .out
 | n+1,u=>(hdP u).bind fun s v=>
  if s.kd=6 then (blkP n v).bind fun b w=>if isW wElse w=true then (blkP n w.tail).bind fun e z=> .ok ((s.setB b).setE e) z else .ok (s.setB b) w
  else if s.kd=7 then (blkP n v).bind fun b w=> .ok (s.setB b) w
  else .ok s v
def blkP:Nat→List To→R (List St)
 | 0,_=> .out
 | n+1,u=>takeS [123] u fun v=>lstP n v
def lstP:Nat→List To→R (List St)
 | 0,_=> .out
 | n+1,u=>if isS [125] u=true then .ok [] u.tail else (staP n u).bind fun s v=>(lstP n v).bind fun l w=> .ok (s::l) w
end
theorem takeK_len {α:Type} {kd:Int} {u v:List To} {f:To→List To→R α} {x:α} (h:takeK kd u f = .ok x v):u≠[]∧f (hd u) u.tail = .ok x v:=by
 unfold takeK at h;split at h
 · rename_i hs;exact ⟨isK_ne hs,h⟩
 · cases h
theorem takeW_len {α:Type} {tx:List UInt8} {u v:List To} {f:List To→R α} {x:α} (h:takeW tx u f = .ok x v):u≠[]∧f u.tail = .ok x v:=by
 unfold takeW at h;split at h
 · rename_i hs;exact ⟨isW_ne hs,h⟩
 · cases h
theorem takeS_out {α:Type} {tx:List UInt8} {u:List To} {f:List To→R α} (h:∀ v,v=u.tail→u≠[]→f v ≠ .out):takeS tx u f ≠ .out:=by
 unfold takeS;split
 · rename_i hs;exact h _ rfl (isS_ne hs)
 · intro e;cases e
theorem takeW_out {α:Type} {tx:List UInt8} {u:List To} {f:List To→R α} (h:∀ v,v=u.tail→u≠[]→f v ≠ .out):takeW tx u f ≠ .out:=by
 unfold takeW;split
 · rename_i hs;exact h _ rfl (isW_ne hs)
 · intro e;cases e
theorem takeK_out {α:Type} {kd:Int} {u:List To} {f:To→List To→R α} (h:∀ t v,v=u.tail→u≠[]→f t v ≠ .out):takeK kd u f ≠ .out:=by
 unfold takeK;split
 · rename_i hs;exact h _ _ rfl (isK_ne hs)
 · intro e;cases e
theorem bind_nout {α β:Type} {r:R α} {f:α→List To→R β} (h:r ≠ .out) (h2:∀ x v,r = .ok x v→f x v ≠ .out):r.bind f ≠ .out:=by
 rcases r with ⟨x,v⟩ | v | _
 · exact h2 x v rfl
 · intro e;cases e
 · exact absurd rfl h
theorem ok_nout {α:Type} {x:α} {u:List To}:(R.ok x u:R α) ≠ .out:=by
 intro e;cases e
theorem tyP_out (u:List To):tyP u ≠ .out:=by
 unfold tyP;split
 · exact ok_nout
 · split
   · exact ok_nout
   · split
     · exact takeK_out fun _ _ _ _=>takeS_out fun _ _ _=>takeW_out fun _ _ _=>ok_nout
     · exact takeK_out fun _ _ _ _=>ok_nout
theorem tyP_len {u v:List To} {x:Ty} (h:tyP u = .ok x v):v.length+1≤u.length:=by
 unfold tyP at h;split at h
 · rename_i hs;have:=tail_len (isW_ne hs);injection h with _ h;subst h;omega
 · split at h
   · rename_i hs;have:=tail_len (isW_ne hs);injection h with _ h;subst h;omega
   · split at h
     · rename_i hs;have:=tail_len (isS_ne hs);obtain ⟨h1,h⟩:=takeK_len h;obtain ⟨h2,h⟩:=takeS_len h;obtain ⟨h3,h⟩:=takeW_len h;have:=tail_len h1;have:=tail_len h2;have:=tail_len h3;injection h with _ h;subst h;omega
     · obtain ⟨h1,h⟩:=takeK_len h;have:=tail_len h1;injection h with _ h;subst h;omega
section
variable {α:Type} {one:List To→R α} (h0:∀ u,one u ≠ .out) (h1:∀ u x v,one u = .ok x v→v.length+1≤u.length)
include h0 h1
theorem comP_all:∀ n u,(u.length < n→comP one n u ≠ .out)∧∀ l v,comP one n u = .ok l v→v.length+1≤u.length
 | 0,u=>⟨fun h=>absurd h (by omega),fun l v h=>(by cases h)⟩
 | n+1,u=>by
  refine ⟨fun hn=>?_,fun l v h=>?_⟩
  · rw [comP];(refine bind_nout (h0 u) fun x v hx=>?_);have:=h1 _ _ _ hx;split
    · rename_i hs;have:=tail_len (isS_ne hs);exact bind_nout ((comP_all n _).1 (by omega)) fun _ _ _=>ok_nout
    · exact takeS_out fun _ _ _=>ok_nout
  · rw [comP] at h;obtain ⟨x,w,e1,h⟩:=bind_is h;have:=h1 _ _ _ e1;split at h
    · rename_i hs;have:=tail_len (isS_ne hs);obtain ⟨l2,w2,e2,h⟩:=bind_is h;have:=(comP_all n _).2 _ _ e2;injection h with _ h;subst h;omega
    · obtain ⟨h3,h⟩:=takeS_len h;have:=tail_len h3;injection h with _ h;subst h;omega
theorem lisP_out (u:List To):lisP one u ≠ .out:=by
 unfold lisP;split
 · exact ok_nout
 · exact (comP_all h0 h1 _ u).1 (Nat.lt_succ_self _)
theorem lisP_len {u v:List To} {l:List α} (h:lisP one u = .ok l v):v.length+1≤u.length:=by
 unfold lisP at h;split at h
 · rename_i hs;have:=tail_len (isS_ne hs);injection h with _ h;subst h;omega
 · exact (comP_all h0 h1 _ u).2 _ _ h
end
theorem argP_out (u:List To):argP u ≠ .out:=lisP_out exP_ne (fun _ _ _ h=>exP_len h) u
theorem argP_len {u v:List To} {l:List Ex} (h:argP u = .ok l v):v.length+1≤u.length:=lisP_len exP_ne (fun _ _ _ h=>exP_len h) h
theorem isC_ne {u:List To} (h:isC u=true):u≠[]∧u.tail≠[]:=by
 unfold isC at h;rw [Bool.and_eq_true] at h;exact ⟨isK_ne h.1,isS_ne h.2⟩
theorem semi_out (s:St) (u:List To):semi s u ≠ .out:=takeS_out fun _ _ _=>ok_nout
theorem semi_len {s x:St} {u v:List To} (h:semi s u = .ok x v):v.length+1≤u.length:=by
 obtain ⟨h1,h⟩:=takeS_len h;have:=tail_len h1;injection h with _ h;subst h;omega
theorem setP_out (ln:Int) (nm:List UInt8) (u:List To):setP ln nm u ≠ .out:=by
 unfold setP;split
 · exact takeS_out fun _ _ _=>takeS_out fun _ _ _=>ok_nout
 · split
   · exact bind_nout (argP_out _) fun _ _ _=>ok_nout
   · exact bind_nout (exP_ne _) fun _ _ _=>ok_nout
theorem setP_len {ln:Int} {nm:List UInt8} {u v:List To} {x:St} (h:setP ln nm u = .ok x v):v.length≤u.length:=by
 unfold setP at h;split at h
 · rename_i hs;have:=tail_len (isW_ne hs);obtain ⟨h1,h⟩:=takeS_len h;obtain ⟨h2,h⟩:=takeS_len h;have:=tail_len h1;have:=tail_len h2;injection h with _ h;subst h;omega
 · split at h
   · rename_i hs;have:=tail_len (isC_ne hs).1;have:=tail_len (isC_ne hs).2;obtain ⟨l,w,e,h⟩:=bind_is h;have:=argP_len e;injection h with _ h;subst h;omega
   · obtain ⟨l,w,e,h⟩:=bind_is h;have:=exP_len e;injection h with _ h;subst h;omega
theorem nmdP_out (ln:Int) (u:List To):nmdP ln u ≠ .out:=by
 unfold nmdP;split
 · exact bind_nout (argP_out _) fun _ _ _=>ok_nout
 · (refine takeK_out fun t v _ _=>?_);split
   · exact bind_nout (exP_ne _) fun _ _ _=>takeS_out fun _ _ _=>takeS_out fun _ _ _=>bind_nout (exP_ne _) fun _ _ _=>ok_nout
   · split
     · exact takeK_out fun _ _ _ _=>takeS_out fun _ _ _=>bind_nout (exP_ne _) fun _ _ _=>ok_nout
     · exact takeS_out fun _ _ _=>setP_out _ _ _
theorem nmdP_len {ln:Int} {u v:List To} {x:St} (h:nmdP ln u = .ok x v):v.length+1≤u.length:=by
 unfold nmdP at h;split at h
 · rename_i hs;have:=tail_len (isC_ne hs).1;have:=tail_len (isC_ne hs).2;obtain ⟨l,w,e,h⟩:=bind_is h;have:=argP_len e;injection h with _ h;subst h;omega
 · obtain ⟨h1,h⟩:=takeK_len h;have:=tail_len h1;split at h
   · rename_i hs;have:=tail_len (isS_ne hs);obtain ⟨x1,w1,e1,h⟩:=bind_is h;have:=exP_len e1;obtain ⟨h2,h⟩:=takeS_len h;obtain ⟨h3,h⟩:=takeS_len h;have:=tail_len h2;have:=tail_len h3;obtain ⟨x2,w2,e2,h⟩:=bind_is h;have:=exP_len e2;injection h with _ h;subst h;omega
   · split at h
     · rename_i hs;have:=tail_len (isS_ne hs);obtain ⟨h2,h⟩:=takeK_len h;obtain ⟨h3,h⟩:=takeS_len h;have:=tail_len h2;have:=tail_len h3;obtain ⟨x2,w2,e2,h⟩:=bind_is h;have:=exP_len e2;injection h with _ h;subst h;omega
     · obtain ⟨h2,h⟩:=takeS_len h;have:=tail_len h2;have:=setP_len h;omega
theorem varP_out (ln:Int) (u:List To):varP ln u ≠ .out:=by
 unfold varP;refine takeK_out fun t v _ _=>bind_nout (tyP_out v) fun ty w _=>?_
 split
 · exact bind_nout (exP_ne _) fun _ _ _=>ok_nout
 · exact ok_nout
theorem varP_len {ln:Int} {u v:List To} {x:St} (h:varP ln u = .ok x v):v.length+1≤u.length:=by
 unfold varP at h;obtain ⟨h1,h⟩:=takeK_len h;have:=tail_len h1;obtain ⟨ty,w,e,h⟩:=bind_is h;have:=tyP_len e;split at h
 · rename_i hs;have:=tail_len (isS_ne hs);obtain ⟨x2,w2,e2,h⟩:=bind_is h;have:=exP_len e2;injection h with _ h;subst h;omega
 · injection h with _ h;subst h;omega
theorem hdP_out (u:List To):hdP u ≠ .out:=by
 unfold hdP;split
 · exact bind_nout (exP_ne _) fun _ _ _=>ok_nout
 · split
   · exact bind_nout (exP_ne _) fun _ _ _=>ok_nout
   · split
     · exact bind_nout (varP_out _ _) fun _ _ _=>semi_out _ _
     · split
       · exact takeS_out fun _ _ _=>bind_nout (exP_ne _) fun _ _ _=>takeS_out fun _ _ _=>semi_out _ _
       · split
         · split
           · exact semi_out _ _
           · exact bind_nout (exP_ne _) fun _ _ _=>semi_out _ _
         · exact bind_nout (nmdP_out _ _) fun _ _ _=>semi_out _ _
theorem hdP_len {u v:List To} {x:St} (h:hdP u = .ok x v):v.length+1≤u.length:=by
 unfold hdP at h;split at h
 · rename_i hs;have:=tail_len (isW_ne hs);obtain ⟨x2,w2,e2,h⟩:=bind_is h;have:=exP_len e2;injection h with _ h;subst h;omega
 · split at h
   · rename_i hs;have:=tail_len (isW_ne hs);obtain ⟨x2,w2,e2,h⟩:=bind_is h;have:=exP_len e2;injection h with _ h;subst h;omega
   · split at h
     · rename_i hs;have:=tail_len (isW_ne hs);obtain ⟨x2,w2,e2,h⟩:=bind_is h;have:=varP_len e2;have:=semi_len h;omega
     · split at h
       · rename_i hs;have:=tail_len (isW_ne hs);obtain ⟨h1,h⟩:=takeS_len h;have:=tail_len h1;obtain ⟨x2,w2,e2,h⟩:=bind_is h;have:=exP_len e2;obtain ⟨h2,h⟩:=takeS_len h;have:=tail_len h2;have:=semi_len h;omega
       · split at h
         · rename_i hs;have:=tail_len (isW_ne hs);split at h
           · have:=semi_len h;omega
           · obtain ⟨x2,w2,e2,h⟩:=bind_is h;have:=exP_len e2;have:=semi_len h;omega
         · obtain ⟨x2,w2,e2,h⟩:=bind_is h;have:=nmdP_len e2;have:=semi_len h;omega
theorem enoughS:∀ n,(∀ u,(3*u.length+2≤n→staP n u ≠ .out)∧∀ x v,staP n u = .ok x v→v.length+1≤u.length)
 ∧ (∀ u,(3*u.length+1≤n→blkP n u ≠ .out)∧∀ x v,blkP n u = .ok x v→v.length+2≤u.length)
 ∧ ∀ u,(3*u.length+3≤n→lstP n u ≠ .out)∧∀ x v,lstP n u = .ok x v→v.length+1≤u.length
 | 0=>⟨fun u=>⟨fun h=>absurd h (by omega),fun x v h=>(by cases h)⟩,fun u=>⟨fun h=>absurd h (by omega),fun x v h=>(by cases h)⟩,fun u=>⟨fun h=>absurd h (by omega),fun x v h=>(by cases h)⟩⟩
 | n+1=>by
  obtain ⟨hs,hb,hl⟩:=enoughS n;refine ⟨fun u=>⟨fun hn=>?_,fun x v h=>?_⟩,fun u=>⟨fun hn=>?_,fun x v h=>?_⟩,fun u=>⟨fun hn=>?_,fun x v h=>?_⟩⟩
  · unfold staP;(refine bind_nout (hdP_out u) fun s v e=>?_);have:=hdP_len e;split
    · (refine bind_nout ((hb v).1 (by omega)) fun b w e2=>?_);have:=(hb v).2 _ _ e2;split
      · rename_i hw;have:=tail_len (isW_ne hw);exact bind_nout ((hb _).1 (by omega)) fun _ _ _=>ok_nout
      · exact ok_nout
    · split
      · exact bind_nout ((hb v).1 (by omega)) fun _ _ _=>ok_nout
      · exact ok_nout
  · unfold staP at h;obtain ⟨s,w,e,h⟩:=bind_is h;have:=hdP_len e;split at h
    · obtain ⟨b,w2,e2,h⟩:=bind_is h;have:=(hb _).2 _ _ e2;split at h
      · rename_i hw;have:=tail_len (isW_ne hw);obtain ⟨b3,w3,e3,h⟩:=bind_is h;have:=(hb _).2 _ _ e3;injection h with _ h;subst h;omega
      · injection h with _ h;subst h;omega
    · split at h
      · obtain ⟨b,w2,e2,h⟩:=bind_is h;have:=(hb _).2 _ _ e2;injection h with _ h;subst h;omega
      · injection h with _ h;subst h;omega
  · unfold blkP;(refine takeS_out fun v e hne=>?_);have:=tail_len hne;subst e;exact (hl _).1 (by omega)
  · unfold blkP at h;obtain ⟨h1,h⟩:=takeS_len h;have:=tail_len h1;have:=(hl _).2 _ _ h;omega
  · unfold lstP;split
    · exact ok_nout
    · (refine bind_nout ((hs u).1 (by omega)) fun s v e=>?_);have:=(hs u).2 _ _ e;exact bind_nout ((hl v).1 (by omega)) fun _ _ _=>ok_nout
  · unfold lstP at h;split at h
    · rename_i hq;have:=tail_len (isS_ne hq);injection h with _ h;subst h;omega
    · obtain ⟨s,w,e,h⟩:=bind_is h;have:=(hs u).2 _ _ e;obtain ⟨l,w2,e2,h⟩:=bind_is h;have:=(hl w).2 _ _ e2;injection h with _ h;subst h;omega
end Go.Proofs.Ytflhcdcifilfcaa

namespace Go.Proofs.Ytflhcdcifilfcaa
open Go

structure Lv where
 l:List St
 el:Bool
def modLast (f:St→St):List St→List St
 | []=>[]
 | [s]=>[f s]
 | s::t::l=>s::modLast f (t::l)
def lastK:List St→Int
 | []=>0
 | [s]=>s.kd
 | _::t::l=>lastK (t::l)
theorem modLast_snoc (f:St→St) (s:St):∀ l,modLast f (l++[s])=l++[f s]
 | []=>rfl
 | [_]=>rfl
 | a::b::l=>by
  have:=modLast_snoc f s (b::l);simp only [List.cons_append] at this ⊢;rw [modLast,this]
theorem lastK_snoc (s:St):∀ l,lastK (l++[s])=s.kd
 | []=>rfl
 | [_]=>rfl
 | a::b::l=>by
  have:=lastK_snoc s (b::l);simp only [List.cons_append] at this ⊢;rw [lastK,this]
def Lv.mod (f:St→St) (a:Lv):Lv:=⟨modLast f a.l,a.el⟩
def Lv.add (a:Lv) (s:St):Lv:=⟨a.l++[s],a.el⟩
theorem Lv.mod_add (f:St→St) (a:Lv) (s:St):(a.add s).mod f=a.add (f s):=by
 unfold Lv.mod Lv.add;rw [modLast_snoc]
def mB:Nat→List Lv→List To→R (List St)
 | 0,_,_=> .out
 | _+1,[],u=> .bad u
 | n+1,t::[],u=>
  if isS [125] u=true then .ok t.l u.tail
  else (hdP u).bind fun s v=>if s.kd=6∨s.kd=7 then takeS [123] v fun w=>mB n (⟨[],false⟩::t.add s::[]) w else mB n (t.add s::[]) v
 | n+1,t::a::o,u=>
  if isS [125] u=true then
   (if t.el=true then mB n (a.mod (·.setE t.l)::o) u.tail
   else if lastK a.l=6∧isW wElse u.tail=true then takeS [123] u.tail.tail fun v=>mB n (⟨[],true⟩::a.mod (·.setB t.l)::o) v
   else mB n (a.mod (·.setB t.l)::o) u.tail)
  else (hdP u).bind fun s v=>if s.kd=6∨s.kd=7 then takeS [123] v fun w=>mB n (⟨[],false⟩::t.add s::a::o) w else mB n (t.add s::a::o) v
theorem takeS_cong {α:Type} {tx:List UInt8} {u:List To} {f g:List To→R α} (h:u≠[]→f u.tail=g u.tail):takeS tx u f=takeS tx u g:=by
 unfold takeS;split
 · rename_i hs;exact h (isS_ne hs)
 · rfl
theorem bind_cong {α β:Type} {r:R α} {f g:α→List To→R β} (h:∀ x v,r = .ok x v→f x v=g x v):r.bind f=r.bind g:=by
 rcases r with ⟨x,v⟩ | v | _
 · exact h x v rfl
 · rfl
 · rfl
theorem mB_more:∀ (n m:Nat) (o:List Lv) (u:List To),u.length+1≤n→u.length+1≤m→mB n o u=mB m o u
 | 0,_,_,_,h,_=>absurd h (by omega)
 | _+1,0,_,_,_,h=>absurd h (by omega)
 | n+1,m+1,[],u,_,_=>rfl
 | n+1,m+1,t::[],u,hn,hm=>by
  rw [mB,mB];split
  · rfl
  · (refine bind_cong fun s v e=>?_);have:=hdP_len e;split
    · (refine takeS_cong fun hv=>?_);have:=tail_len hv;exact mB_more n m _ _ (by omega) (by omega)
    · exact mB_more n m _ _ (by omega) (by omega)
 | n+1,m+1,t::a::o,u,hn,hm=>by
  rw [mB,mB];split
  · rename_i hs;have:=tail_len (isS_ne hs);split
    · exact mB_more n m _ _ (by omega) (by omega)
    · split
      · rename_i hw;have:=tail_len (isW_ne hw.2);(refine takeS_cong fun hv=>?_);have:=tail_len hv;exact mB_more n m _ _ (by omega) (by omega)
      · exact mB_more n m _ _ (by omega) (by omega)
  · (refine bind_cong fun s v e=>?_);have:=hdP_len e;split
    · (refine takeS_cong fun hv=>?_);have:=tail_len hv;exact mB_more n m _ _ (by omega) (by omega)
    · exact mB_more n m _ _ (by omega) (by omega)
def B (o:List Lv) (u:List To):R (List St):=mB (u.length+1) o u
def K (el:Bool) (o:List Lv) (l:List St) (v:List To):R (List St):=match o with
 | []=> .ok l v
 | a::o=>
  if el=true then B (a.mod (·.setE l)::o) v
  else if lastK a.l=6∧isW wElse v=true then takeS [123] v.tail fun w=>B (⟨[],true⟩::a.mod (·.setB l)::o) w
  else B (a.mod (·.setB l)::o) v
theorem B_eq (t:Lv) (o:List Lv) (u:List To):B (t::o) u =
 if isS [125] u=true then K t.el o t.l u.tail
 else (hdP u).bind fun s v=>if s.kd=6∨s.kd=7 then takeS [123] v fun w=>B (⟨[],false⟩::t.add s::o) w else B (t.add s::o) v:=by
 have hbody:((hdP u).bind fun s v=>if s.kd=6∨s.kd=7 then takeS [123] v fun w=>mB u.length (⟨[],false⟩::t.add s::o) w else mB u.length (t.add s::o) v)=(hdP u).bind fun s v=>if s.kd=6∨s.kd=7 then takeS [123] v fun w=>B (⟨[],false⟩::t.add s::o) w else B (t.add s::o) v:=by
  refine bind_cong fun s v e=>?_
  have:=hdP_len e;split
  · (refine takeS_cong fun hv=>?_);have:=tail_len hv;exact mB_more _ _ _ _ (by omega) (by omega)
  · exact mB_more _ _ _ _ (by omega) (by omega)
 rw [← hbody];unfold B;rcases o with _ | ⟨a,o⟩
 · rw [mB];split
   · rfl
   · rfl
 · rw [mB];split
   · rename_i hs;have:=tail_len (isS_ne hs);unfold K B;dsimp only;split
     · exact mB_more _ _ _ _ (by omega) (by omega)
     · split
       · rename_i hw;have:=tail_len (isW_ne hw.2);(refine takeS_cong fun hv=>?_);have:=tail_len hv;exact mB_more _ _ _ _ (by omega) (by omega)
       · exact mB_more _ _ _ _ (by omega) (by omega)
   · rfl
theorem takeS_bind {α β:Type} {tx:List UInt8} {u:List To} {f:List To→R α} {g:α→List To→R β}:(takeS tx u f).bind g=takeS tx u fun v=>(f v).bind g:=by
 unfold takeS;split<;>rfl
theorem mach_lst:∀ n,(∀ t o u,isS [125] u=false→staP n u ≠ .out→B (t::o) u=(staP n u).bind fun s v=>B (t.add s::o) v)
 ∧ (∀ el o v,blkP n v ≠ .out→(takeS [123] v fun w=>B (⟨[],el⟩::o) w)=(blkP n v).bind fun b z=>K el o b z)
 ∧ ∀ t o u,lstP n u ≠ .out→B (t::o) u=(lstP n u).bind fun l v=>K t.el o (t.l++l) v
 | 0=>⟨fun t o u _ h=>absurd rfl h,fun el o v h=>absurd rfl h,fun t o u h=>absurd rfl h⟩
 | n+1=>by
  obtain ⟨hs,hb,hl⟩:=mach_lst n;refine ⟨fun t o u hu h=>?_,fun el o v h=>?_,fun t o u h=>?_⟩
  · rw [B_eq,if_neg (by rw [hu];decide)];unfold staP at h ⊢;rw [R.bind_assoc];(refine bind_cong fun s v e=>?_);rw [e,R.bind_ok] at h;by_cases h6:s.kd=6
    · rw [if_pos h6] at h ⊢;rw [if_pos (.inl h6),hb _ _ _ (R.bind_ne h),R.bind_assoc];(refine bind_cong fun b w e2=>?_);rw [e2,R.bind_ok] at h;unfold K;dsimp only;rw [if_neg (by decide),Lv.mod_add,show lastK (t.add s).l=6 from (lastK_snoc s t.l).trans h6];by_cases hw:isW wElse w=true
      · rw [if_pos hw] at h ⊢;rw [if_pos ⟨rfl,hw⟩,hb _ _ _ (R.bind_ne h),R.bind_assoc];(refine bind_cong fun e3 z e4=>?_);unfold K;dsimp only;rw [if_pos rfl,Lv.mod_add];rfl
      · rw [if_neg hw,if_neg (fun q=>hw q.2)];rfl
    · rw [if_neg h6] at h ⊢;by_cases h7:s.kd=7
      · rw [if_pos h7] at h ⊢;rw [if_pos (.inr h7),hb _ _ _ (R.bind_ne h),R.bind_assoc];(refine bind_cong fun b w e2=>?_);unfold K;dsimp only;rw [if_neg (by decide),Lv.mod_add,show lastK (t.add s).l=s.kd from lastK_snoc s t.l,if_neg (fun q=>h6 q.1)];rfl
      · rw [if_neg h7,if_neg (fun q=>q.elim h6 h7)];rfl
  · unfold blkP at h ⊢;rw [takeS_bind];unfold takeS at h ⊢;split
    · rename_i hq;rw [if_pos hq] at h;exact hl _ _ _ h
    · rfl
  · rw [lstP] at h ⊢;by_cases hq:isS [125] u=true
    · rw [B_eq,if_pos hq,if_pos hq,R.bind_ok,List.append_nil]
    · rw [if_neg hq] at h ⊢;rw [hs t o u (Bool.eq_false_iff.2 hq) (R.bind_ne h),R.bind_assoc];(refine bind_cong fun s v e=>?_);rw [e,R.bind_ok] at h;rw [hl _ _ _ (R.bind_ne h),R.bind_assoc];(refine bind_cong fun l w e2=>?_);rw [R.bind_ok];show K t.el o ((t.l++[s])++l) w=_;rw [List.append_assoc];rfl
def blP (u:List To):R (List St):=blkP (3*u.length+1) u
theorem blP_ne (u:List To):blP u ≠ .out:=((enoughS _).2.1 u).1 (Nat.le_refl _)
theorem blP_len {u v:List To} {x:List St} (h:blP u = .ok x v):v.length+2≤u.length:=((enoughS _).2.1 u).2 _ _ h
theorem B_blP (u:List To):(takeS [123] u fun w=>B [⟨[],false⟩] w)=blP u:=by
 rw [(mach_lst (3*u.length+1)).2.1 false [] u (blP_ne u)];show (blP u).bind _=blP u;rcases blP u with ⟨x,v⟩ | v | _<;>rfl
end Go.Proofs.Ytflhcdcifilfcaa

namespace Go.Proofs.Ytflhcdcifilfcaa
open Go

structure Sc where
 nm:List UInt8
 fs:List (List UInt8)
structure Pm where
 nm:List UInt8
 ty:Ty
structure Dc where
 nm:List UInt8
 ln:Int
 ps:List Pm
 rs:Ty
 bd:List St
structure Pg where
 ss:List Sc
 fs:List Dc
def wType:List UInt8:=[116,121,112,101]
def wStruct:List UInt8:=[115,116,114,117,99,116]
def wFunc:List UInt8:=[102,117,110,99]
def fldP:Nat→List To→R (List (List UInt8))
 | 0,_=> .out
 | n+1,u=>if isS [125] u=true then .ok [] u.tail else takeK 1 u fun t v=>takeW wInt v fun w=>takeS [59] w fun z=>(fldP n z).bind fun l y=> .ok (t.tx::l) y
def scP (u:List To):R Sc:=takeW wType u fun v=>takeK 1 v fun t w=>takeW wStruct w fun z=>takeS [123] z fun y=>(fldP (y.length+1) y).bind fun l q=> .ok ⟨t.tx,l⟩ q
def pmP (u:List To):R Pm:=takeK 1 u fun t v=>(tyP v).bind fun ty w=> .ok ⟨t.tx,ty⟩ w
def rsP (u:List To):R Ty:=if isS [123] u=true then .ok ty0 u else tyP u
def dcP (u:List To):R Dc:=takeW wFunc u fun v=>takeK 1 v fun t w=>takeS [40] w fun z=>(lisP pmP z).bind fun ps y=>(rsP y).bind fun rs q=>(blP q).bind fun b p=> .ok ⟨t.tx,(hd u).ln,ps,rs,b⟩ p
def pgP:Nat→Pg→List To→R Pg
 | 0,_,_=> .out
 | n+1,x,u=>if u=[] then .ok x [] else if isW wType u=true then (scP u).bind fun s v=>pgP n ⟨x.ss++[s],x.fs⟩ v else (dcP u).bind fun d v=>pgP n ⟨x.ss,x.fs++[d]⟩ v
theorem fldP_all:∀ n u,(u.length < n→fldP n u ≠ .out)∧∀ l v,fldP n u = .ok l v→v.length+1≤u.length
 | 0,u=>⟨fun h=>absurd h (by omega),fun l v h=>(by cases h)⟩
 | n+1,u=>by
  refine ⟨fun hn=>?_,fun l v h=>?_⟩
  · rw [fldP];split
    · exact ok_nout
    · (refine takeK_out fun t v e hv=>takeW_out fun w e2 hw=>takeS_out fun z e3 hz=>?_);have:=tail_len hv;subst e;have:=tail_len hw;subst e2;have:=tail_len hz;subst e3;exact bind_nout ((fldP_all n _).1 (by omega)) fun _ _ _=>ok_nout
  · rw [fldP] at h;split at h
    · rename_i hs;have:=tail_len (isS_ne hs);injection h with _ h;subst h;omega
    · obtain ⟨h1,h⟩:=takeK_len h;obtain ⟨h2,h⟩:=takeW_len h;obtain ⟨h3,h⟩:=takeS_len h;have:=tail_len h1;have:=tail_len h2;have:=tail_len h3;obtain ⟨l2,w2,e2,h⟩:=bind_is h;have:=(fldP_all n _).2 _ _ e2;injection h with _ h;subst h;omega
theorem scP_out (u:List To):scP u ≠ .out:=
 takeW_out fun _ _ _=>takeK_out fun _ _ _ _=>takeW_out fun _ _ _=>takeS_out fun _ _ _=>bind_nout ((fldP_all _ _).1 (Nat.lt_succ_self _)) fun _ _ _=>ok_nout
theorem scP_len {u v:List To} {x:Sc} (h:scP u = .ok x v):v.length+1≤u.length:=by
 obtain ⟨h1,h⟩:=takeW_len h;obtain ⟨h2,h⟩:=takeK_len h;obtain ⟨h3,h⟩:=takeW_len h;obtain ⟨h4,h⟩:=takeS_len h;have:=tail_len h1;have:=tail_len h2;have:=tail_len h3;have:=tail_len h4;obtain ⟨l,w,e,h⟩:=bind_is h;have:=(fldP_all _ _).2 _ _ e;injection h with _ h;subst h;omega
theorem pmP_out (u:List To):pmP u ≠ .out:=takeK_out fun _ _ _ _=>bind_nout (tyP_out _) fun _ _ _=>ok_nout
theorem pmP_len {u v:List To} {x:Pm} (h:pmP u = .ok x v):v.length+1≤u.length:=by
 obtain ⟨h1,h⟩:=takeK_len h;have:=tail_len h1;obtain ⟨l,w,e,h⟩:=bind_is h;have:=tyP_len e;injection h with _ h;subst h;omega
theorem rsP_out (u:List To):rsP u ≠ .out:=by
 unfold rsP;split
 · exact ok_nout
 · exact tyP_out u
theorem rsP_len {u v:List To} {x:Ty} (h:rsP u = .ok x v):v.length≤u.length:=by
 unfold rsP at h;split at h
 · injection h with _ h;subst h;exact Nat.le_refl _
 · have:=tyP_len h;omega
theorem dcP_out (u:List To):dcP u ≠ .out:=
 takeW_out fun _ _ _=>takeK_out fun _ _ _ _=>takeS_out fun _ _ _=>bind_nout (lisP_out pmP_out (fun _ _ _ h=>pmP_len h) _) fun _ _ _=>bind_nout (rsP_out _) fun _ _ _=>bind_nout (blP_ne _) fun _ _ _=>ok_nout
theorem dcP_len {u v:List To} {x:Dc} (h:dcP u = .ok x v):v.length+1≤u.length:=by
 obtain ⟨h1,h⟩:=takeW_len h;obtain ⟨h2,h⟩:=takeK_len h;obtain ⟨h3,h⟩:=takeS_len h;have:=tail_len h1;have:=tail_len h2;have:=tail_len h3;obtain ⟨l,w,e,h⟩:=bind_is h;have:=lisP_len pmP_out (fun _ _ _ h=>pmP_len h) e;obtain ⟨l2,w2,e2,h⟩:=bind_is h;have:=rsP_len e2;obtain ⟨l3,w3,e3,h⟩:=bind_is h;have:=blP_len e3;injection h with _ h;subst h;omega
theorem pgP_out:∀ n x u,u.length < n→pgP n x u ≠ .out
 | 0,_,_,h=>absurd h (by omega)
 | n+1,x,u,hn=>by
  rw [pgP];split
  · exact ok_nout
  · split
    · (refine bind_nout (scP_out u) fun s v e=>?_);have:=scP_len e;exact pgP_out n _ _ (by omega)
    · (refine bind_nout (dcP_out u) fun s v e=>?_);have:=dcP_len e;exact pgP_out n _ _ (by omega)
def proP (u:List To):R Pg:=pgP (u.length+1) ⟨[],[]⟩ u
mutual
def Ex.dp:Ex→Nat
 | .mk _ _ _ _ _ ks=>exsD ks+1
def exsD:List Ex→Nat
 | []=>0
 | x::l=>max x.dp (exsD l)
end
mutual
def St.dp:St→Nat
 | .mk _ _ _ _ _ _ ks bd el=>if 40 < exsD ks then 41 else max (stsD bd) (stsD el)+1
def stsD:List St→Nat
 | []=>0
 | s::l=>max s.dp (stsD l)
end
def deepP (x:Pg):Bool:=x.fs.any fun d=>decide (40 < stsD d.bd)
def parP (l:List To):Pg×Int×Int:=match proP l with
 | .ok x _=>if deepP x=true then (⟨[],[]⟩,0,11) else (x,0,0)
 | .bad u=>(⟨[],[]⟩,(l.length:Int) - u.length,7)
 | .out=>(⟨[],[]⟩,0,0)
end Go.Proofs.Ytflhcdcifilfcaa

namespace Go.Proofs.Ytflhcdcifilfcaa
open Go.RowKit

def b8 (x:UInt8):Value:= .int .u8 (x.toNat:Int)
def Blk (w:World) (g:Nat) (l:List UInt8):Prop:=w.heap[g]? = some (.cells (l.map b8).toArray 5 (0,0))
def Own (w:World) (B:Nat) (v:Value) (l:List UInt8):Prop:=
 (v = .slice none 0 0∧l=[])∨∃ g r,v = .slice (some ⟨g,0,none⟩) l.length (l.length+r.length)∧B≤g∧l.length+r.length≤maxLen∧Blk w g (l++r)

section
variable {w w':World} {B g:Nat} {v:Value} {l:List UInt8}
theorem Blk.lt (h:Blk w g l):g < w.heap.size:=by
 rcases Nat.lt_or_ge g w.heap.size with h' | h'
 · exact h'
 · unfold Blk at h;rw [Array.getElem?_eq_none h'] at h;cases h
theorem Blk.cell (h:Blk w g l) {j:Nat} (hj:j < l.length):w.cell? ⟨g,j,none⟩=some (.int .u8 (l[j].toNat:Int)):=by
 unfold Blk at h;simp only [World.cell?,h];simp [hj,b8]
theorem Blk.below (h:Blk w g l) (hb:Below B w w') (hg:g < B):Blk w' g l:=(hb.block g hg).trans h
theorem Blk.kept {row:Option Nat} (h:Blk w g l) (hg:w.grownBy w' row) (hne:row≠some g):Blk w' g l:=(hg.block g h.lt (fun e=>hne e.symm)).trans h
theorem Blk.lies (h:Blk w g l) {m:List UInt8} (hm:m <+: l) (hB:g < B):Lies w B (some ⟨g,0,none⟩) m:=fun _=>by
 obtain ⟨r,rfl⟩:=hm;refine ⟨g,0,rfl,hB,fun j hj=>?_⟩;rw [Nat.zero_add,h.cell (by simp;omega)];simp [List.getElem_append_left hj]
theorem Own.nil (w:World) (B:Nat):Own w B (.slice none 0 0) []:= .inl ⟨rfl,rfl⟩
theorem Own.lt (h:Own w B v l):∀ k,v.ownBlock=some k→B≤k∧k < w.heap.size:=by
 rintro k hk;rcases h with ⟨rfl,_⟩ | ⟨g,r,rfl,hB,_,hb⟩
 · cases hk
 · simp only [Value.ownBlock,Option.some.injEq] at hk;subst hk;exact ⟨hB,hb.lt⟩
theorem Own.kept {row:Option Nat} (h:Own w B v l) (hg:w.grownBy w' row) (hne:v.ownBlock=none∨v.ownBlock≠row):Own w' B v l:=by
 rcases h with h | ⟨g,r,rfl,hB,hm,hb⟩
 · exact .inl h
 · refine .inr ⟨g,r,rfl,hB,hm,hb.kept hg (fun e=>?_)⟩;rcases hne with h | h
   · cases h
   · exact h e.symm
theorem Own.below (h:Own w B v l) (hb:Below w.heap.size w w'):Own w' B v l:=by
 rcases h with h | ⟨g,r,rfl,hB,hm,hb'⟩
 · exact .inl h
 · exact .inr ⟨g,r,rfl,hB,hm,hb'.below hb hb'.lt⟩
theorem Own.base {B':Nat} (h:Own w B v l) (hB:B'≤B):Own w B' v l:=by
 rcases h with h | ⟨g,r,e,hg,q⟩
 · exact .inl h
 · exact .inr ⟨g,r,e,Nat.le_trans hB hg,q⟩
theorem Own.form (h:Own w B v l):∃ A c,v = .slice A l.length c∧l.length≤c∧(A=none→c=0)∧Lies w w.heap.size A l:=by
 rcases h with ⟨rfl,rfl⟩ | ⟨g,r,rfl,hB,hm,hb⟩
 · exact ⟨none,0,rfl,Nat.le_refl _,fun _=>rfl,Lies.empty _ _ _⟩
 · exact ⟨_,_,rfl,Nat.le_add_right _ _,fun e=>by (cases e),hb.lies (List.prefix_append l r) hb.lt⟩
theorem Own.formN (h:Own w B v l):∃ A n c,v = .slice A n c∧Hid (l.length=n)∧n≤c∧(A=none→c=0)∧Lies w w.heap.size A l:=by
 obtain ⟨A,c,e,h1,h2,h3⟩:=h.form;exact ⟨A,l.length,c,e,rfl,h1,h2,h3⟩
end

theorem add_zero_off (g o j:Nat):(⟨g,o,none⟩:Addr).add j=⟨g,o+j,none⟩:=by
 by_cases h:j=0<;>simp [Addr.add,h]

section
variable {ops:Array Oper} {rest:List Oper} {o:Oper} {a:Act} {Q:Exit→Act→World→Prop}
end

theorem below_grown {B:Nat} {w w1 w2:World} {v:Value} {l:List UInt8} (hb:Below B w w1) (hg:w1.grownBy w2 v.ownBlock) (ho:Own w1 B v l) (hB:B≤w1.heap.size):Below B w w2:=
 hb.grown hg hB fun k hk=>(ho.lt k hk).1

end Go.Proofs.Ytflhcdcifilfcaa
