/-
  Merged for a claim: S4A, S4B.
-/
import Derived.Test.YtflhcdcifilfcaaHJ1
import Derived.Test.YtflhcdcifilfcaaHJ13
namespace Go.Proofs.Ytflhcdcifilfcaa
open Go

def sgn (s:List UInt8) (ln:Int):To:=⟨4,s,0,ln⟩
def wrd (s:List UInt8) (ln:Int):To:=⟨3,s,0,ln⟩
def nmT (s:List UInt8) (ln:Int):To:=⟨1,s,0,ln⟩
def dgP (n:Nat) (s:List UInt8):List UInt8:=if h:10≤n then dgP (n / 10) (UInt8.ofNat (48+n % 10)::s) else UInt8.ofNat (48+n)::s
termination_by n
decreasing_by omega
def nuT (n:Int) (ln:Int):To:=⟨2,dgP n.toNat [],n,ln⟩
def pars (n:Nat) (ln:Int) (l:List To):List To:=List.replicate n (sgn [40] ln)++l++List.replicate n (sgn [41] ln)
def Ex.kd:Ex→Int | .mk kd _ _ _ _ _=>kd
def parN (m:Nat) (x:Ex):Nat:=m+if x.kd=6∨x.kd=7 then 1 else 0
mutual
def Ex.ly (m:Nat) (ln:Int):Ex→List To
 | .mk kd nu nm fl op ks=>
  if kd=1 then [nuT nu ln]
  else if kd=2 then [wrd (if nu=1 then wTrue else wFalse) ln]
  else if kd=3 then [nmT nm ln]
  else if kd=4 then nmT nm ln::sgn [91] ln::((kidsL m ln ks).flatten++[sgn [93] ln])
  else if kd=5 then [nmT nm ln,sgn [46] ln,nmT fl ln]
  else if kd=6 then sgn op ln::(kidsL m ln ks).flatten
  else match kidsL m ln ks with
   | [a,b]=>a++sgn op ln::b
   | _=>[]
def kidsL (m:Nat) (ln:Int):List Ex→List (List To)
 | []=>[]
 | x::l=>pars (parN m x) ln (x.ly m ln)::kidsL m ln l
end
def Ex.kl (m:Nat) (ln:Int) (x:Ex):List To:=pars (parN m x) ln (x.ly m ln)
inductive Fine:Ex→Prop
 | num (n:Int):0≤n→Fine (eNum n)
 | bool (n:Int):n=0∨n=1→Fine (eBool n)
 | var (nm:List UInt8):Fine (eVar nm)
 | elem (nm:List UInt8) (x:Ex):Fine x→Fine (eElem nm x)
 | field (nm fl:List UInt8):Fine (eField nm fl)
 | un (op:List UInt8) (x:Ex):op=[45]∨op=[33]→Fine x→Fine (eUn op x)
 | bin (op:List UInt8) (x y:Ex):bnd op≠0→Fine x→Fine y→Fine (eBin op x y)
def good (u:List To):Prop:=¬ isS [91] u=true∧¬ isS [46] u=true
section
variable (m:Nat) (ln:Int)
theorem ly_num (n:Int):(eNum n).ly m ln=[nuT n ln]:=by rw [eNum,Ex.ly,if_pos rfl]
theorem ly_bool (n:Int):(eBool n).ly m ln=[wrd (if n=1 then wTrue else wFalse) ln]:=by rw [eBool,Ex.ly,if_neg (by decide),if_pos rfl]
theorem ly_var (nm:List UInt8):(eVar nm).ly m ln=[nmT nm ln]:=by rw [eVar,Ex.ly,if_neg (by decide),if_neg (by decide),if_pos rfl]
theorem ly_elem (nm:List UInt8) (x:Ex):(eElem nm x).ly m ln=nmT nm ln::sgn [91] ln::(x.kl m ln++[sgn [93] ln]):=by
 rw [eElem,Ex.ly,if_neg (by decide),if_neg (by decide),if_neg (by decide),if_pos rfl,kidsL,kidsL,List.flatten_cons,List.flatten_nil,List.append_nil];rfl
theorem ly_field (nm fl:List UInt8):(eField nm fl).ly m ln=[nmT nm ln,sgn [46] ln,nmT fl ln]:=by rw [eField,Ex.ly,if_neg (by decide),if_neg (by decide),if_neg (by decide),if_neg (by decide),if_pos rfl]
theorem ly_un (op:List UInt8) (x:Ex):(eUn op x).ly m ln=sgn op ln::x.kl m ln:=by
 rw [eUn,Ex.ly,if_neg (by decide),if_neg (by decide),if_neg (by decide),if_neg (by decide),if_neg (by decide),if_pos rfl,kidsL,kidsL,List.flatten_cons,List.flatten_nil,List.append_nil];rfl
theorem ly_bin (op:List UInt8) (x y:Ex):(eBin op x y).ly m ln=x.kl m ln++sgn op ln::y.kl m ln:=by
 rw [eBin,Ex.ly,if_neg (by decide),if_neg (by decide),if_neg (by decide),if_neg (by decide),if_neg (by decide),if_neg (by decide),kidsL,kidsL,kidsL];rfl
end
theorem isS_sgn (s s2:List UInt8) (ln:Int) (u:List To):isS s (sgn s2 ln::u)=decide (s2=s):=by simp [isS,isT,sgn];try exact decide_eq_decide.2 Iff.rfl
theorem isS_nm (s s2:List UInt8) (ln:Int) (u:List To):isS s (nmT s2 ln::u)=false:=by simp [isS,isT,nmT];try exact decide_eq_decide.2 Iff.rfl
theorem isS_wr (s s2:List UInt8) (ln:Int) (u:List To):isS s (wrd s2 ln::u)=false:=by simp [isS,isT,wrd];try exact decide_eq_decide.2 Iff.rfl
theorem isS_nu (s:List UInt8) (n:Int) (ln:Int) (u:List To):isS s (nuT n ln::u)=false:=by simp [isS,isT,nuT];try exact decide_eq_decide.2 Iff.rfl
theorem isK_sgn (kd:Int) (s2:List UInt8) (ln:Int) (u:List To):isK kd (sgn s2 ln::u)=decide (4=kd):=by simp [isK,sgn];try exact decide_eq_decide.2 Iff.rfl
theorem isK_nm (kd:Int) (s2:List UInt8) (ln:Int) (u:List To):isK kd (nmT s2 ln::u)=decide (1=kd):=by simp [isK,nmT];try exact decide_eq_decide.2 Iff.rfl
theorem isK_wr (kd:Int) (s2:List UInt8) (ln:Int) (u:List To):isK kd (wrd s2 ln::u)=decide (3=kd):=by simp [isK,wrd];try exact decide_eq_decide.2 Iff.rfl
theorem isK_nu (kd:Int) (n:Int) (ln:Int) (u:List To):isK kd (nuT n ln::u)=decide (2=kd):=by simp [isK,nuT];try exact decide_eq_decide.2 Iff.rfl
theorem isW_wr (s s2:List UInt8) (ln:Int) (u:List To):isW s (wrd s2 ln::u)=decide (s2=s):=by simp [isW,isT,wrd];try exact decide_eq_decide.2 Iff.rfl
theorem isW_nm (s s2:List UInt8) (ln:Int) (u:List To):isW s (nmT s2 ln::u)=false:=by simp [isW,isT,nmT];try exact decide_eq_decide.2 Iff.rfl
theorem isW_sgn (s s2:List UInt8) (ln:Int) (u:List To):isW s (sgn s2 ln::u)=false:=by simp [isW,isT,sgn];try exact decide_eq_decide.2 Iff.rfl
theorem isW_nu (s:List UInt8) (n:Int) (ln:Int) (u:List To):isW s (nuT n ln::u)=false:=by simp [isW,isT,nuT];try exact decide_eq_decide.2 Iff.rfl
theorem bndU_sgn (s:List UInt8) (ln:Int) (u:List To):bndU (sgn s ln::u)=bnd s:=by simp [bndU,isK,sgn,hd]
theorem good_sgn {s:List UInt8} {ln:Int} {u:List To} (h1:s≠[91]) (h2:s≠[46]):good (sgn s ln::u):=by
 unfold good;rw [isS_sgn,isS_sgn,decide_eq_false h1,decide_eq_false h2];exact ⟨by decide,by decide⟩
theorem bnd_ne {op:List UInt8} (h:bnd op≠0):op≠[40]∧op≠[41]∧op≠[91]∧op≠[93]∧op≠[46]:=by
 refine ⟨?_,?_,?_,?_,?_⟩<;>(intro e;subst e;exact h (by decide))
theorem M_leaf {o:List Ha} {u:List To} (h1:¬ isU u=true) (h2:¬ isS [40] u=true) (h3:¬ isE u=true):M o u=(leafP u).bind (Af o):=by rw [M_eq,if_neg h1,if_neg h2,if_neg h3]
theorem pop_par {o:List Ha} {x:Ex} {ln:Int} {u:List To}:Af (.par::o) x (sgn [41] ln::u)=Af o x u:=by
 rw [Af_pop (by unfold Ha.ends;rw [if_neg (by decide)];show isS [41] _=true;rw [isS_sgn];rfl)];rfl
theorem read_plain {x:Ex} (hx:Fine x) (hk:¬ (x.kd=6∨x.kd=7)) (m:Nat) (ln:Int) (K:∀ y,Fine y→∀ nm,x=eElem nm y→∀ o u,good u→M o (y.kl m ln++u)=Af o y u) (o:List Ha) (u:List To) (hu:good u):M o (x.ly m ln++u)=Af o x u:=by
 cases hx with
 | num n hn=>
  rw [ly_num,List.singleton_append,M_leaf (by simp [isU,isS_nu]) (by simp [isS_nu]) (by simp [isE,isK_nu]),leafP,if_pos (by rw [isK_nu];rfl)];rfl
 | bool n hn=>
  rw [ly_bool,List.singleton_append,M_leaf (by simp [isU,isS_wr]) (by simp [isS_wr]) (by simp [isE,isK_wr]),leafP,if_neg (by rw [isK_wr];decide)];rcases hn with rfl | rfl
  · rw [show (if (0:Int)=1 then wTrue else wFalse)=wFalse from rfl,if_neg (by rw [isW_wr];decide),if_pos (by rw [isW_wr];rfl)];rfl
  · rw [show (if (1:Int)=1 then wTrue else wFalse)=wTrue from rfl,if_pos (by rw [isW_wr];rfl)];rfl
 | var nm=>
  rw [ly_var,List.singleton_append,M_leaf (by simp [isU,isS_nm]) (by simp [isS_nm]) (by unfold isE;rw [isK_nm];simp only [List.tail_cons];intro q;exact hu.1 (by simpa using q)),leafP,if_neg (by rw [isK_nm];decide),if_neg (by rw [isW_nm];decide),if_neg (by rw [isW_nm];decide)];unfold takeK;rw [if_pos (by rw [isK_nm];rfl)];show ((leafN nm u).bind (Af o))=Af o (eVar nm) u;unfold leafN;rw [if_neg hu.2];rfl
 | elem nm y hy=>
  rw [ly_elem,M_eq,if_neg (by simp [isU,isS_nm]),if_neg (by simp [isS_nm]),if_pos (by simp [isE,isK_nm,isS_sgn])];simp only [List.cons_append,List.tail_cons,List.append_assoc,List.nil_append];rw [K y hy nm rfl _ _ (good_sgn (by decide) (by decide)),Af_pop (by unfold Ha.ends;rw [if_neg (show ¬ (Ha.elem _).en=[] from (by decide:¬ ([93]:List UInt8)=[]))];show isS [93] _=true;rw [isS_sgn];rfl)];rfl
 | field nm fl=>
  rw [ly_field];simp only [List.cons_append,List.nil_append];rw [M_leaf (by simp [isU,isS_nm]) (by simp [isS_nm]) (by simp [isE,isK_nm,isS_sgn]),leafP,if_neg (by rw [isK_nm];decide),if_neg (by rw [isW_nm];decide),if_neg (by rw [isW_nm];decide)];unfold takeK;rw [if_pos (by rw [isK_nm];rfl)];show ((leafN nm (sgn [46] ln::nmT fl ln::u)).bind (Af o))=Af o (eField nm fl) u;unfold leafN takeK;rw [if_pos (by rw [isS_sgn];rfl),List.tail_cons,if_pos (by rw [isK_nm];rfl)];rfl
 | un op y ho hy=>exact absurd (.inl rfl) hk
 | bin op y z ho hy hz=>exact absurd (.inr rfl) hk
theorem read_in {x:Ex} (hx:Fine x) (m:Nat) (ln:Int) (K:∀ y,Fine y→SizeOf.sizeOf y < SizeOf.sizeOf x→∀ o u,good u→M o (y.kl m ln++u)=Af o y u) (o:List Ha) (u:List To):M (.par::o) (x.ly m ln++sgn [41] ln::u)=Af (.par::o) x (sgn [41] ln::u):=by
 have hg:good (sgn [41] ln::u):=good_sgn (by decide) (by decide);by_cases hk:x.kd=6∨x.kd=7
 · cases hx with
   | num n hn=>exact absurd hk (by show ¬ ((1:Int)=6∨(1:Int)=7);decide)
   | bool n hn=>exact absurd hk (by show ¬ ((2:Int)=6∨(2:Int)=7);decide)
   | var nm=>exact absurd hk (by show ¬ ((3:Int)=6∨(3:Int)=7);decide)
   | elem nm y hy=>exact absurd hk (by show ¬ ((4:Int)=6∨(4:Int)=7);decide)
   | field nm fl=>exact absurd hk (by show ¬ ((5:Int)=6∨(5:Int)=7);decide)
   | un op y ho hy=>
    rw [ly_un,List.cons_append,M_eq,if_pos (by unfold isU;rw [isS_sgn,isS_sgn];rcases ho with rfl | rfl<;>decide),List.tail_cons,K y hy (by simp [eUn];omega) _ _ hg,
     Af_pop (show Ha.ends (.un _) _=true from decide_eq_true (Nat.le_trans (bndU_le _) (show 5≤6 by decide)))]
    rfl
   | bin op y z ho hy hz=>
    have hne:=bnd_ne ho
    rw [ly_bin,List.append_assoc,List.cons_append,K y hy (by simp [eBin];omega) _ _ (good_sgn hne.2.2.1 hne.2.2.2.2),
     Af_stay (fun h o' e=>by injection e with e _;subst e;unfold Ha.ends;rw [if_neg (by decide)];show isS [41] _=false;rw [isS_sgn,decide_eq_false hne.2.1]),if_neg (by rw [bndU_sgn];exact ho),List.tail_cons,
     K z hz (by simp [eBin];omega) _ _ hg,Af_pop (show Ha.ends (.bin _ _ _) _=true from decide_eq_true (by rw [show bndU (sgn [41] ln::u)=0 from (bndU_sgn _ _ _).trans rfl];exact Nat.zero_le _))]
    rfl
 · exact read_plain hx hk m ln (fun y hy nm e o u hu=>K y hy (by subst e;simp [eElem];omega) o u hu) _ _ hg
theorem read_kid (m:Nat) (ln:Int):∀ (x:Ex),Fine x→∀ o u,good u→M o (x.kl m ln++u)=Af o x u
 | x,hx,o,u,hu=>by
  have K:∀ y,Fine y→SizeOf.sizeOf y < SizeOf.sizeOf x→∀ o u,good u→M o (y.kl m ln++u)=Af o y u:=fun y hy _=>read_kid m ln y hy
  have key:∀ n o u,(0 < n∨¬ (x.kd=6∨x.kd=7))→good u→M o (pars n ln (x.ly m ln)++u)=Af o x u:=by
   intro n;induction n with
   | zero=>
    intro o u h hu;have hk:¬ (x.kd=6∨x.kd=7):=h.resolve_left (by omega);unfold pars;rw [List.replicate_zero,List.replicate_zero,List.nil_append,List.append_nil];exact read_plain hx hk m ln (fun y hy nm e o u hu=>K y hy (by subst e;simp [eElem];omega) o u hu) _ _ hu
   | succ n ih=>
    intro o u _ hu;have e:pars (n+1) ln (x.ly m ln)++u=sgn [40] ln::(pars n ln (x.ly m ln)++sgn [41] ln::u):=by
     unfold pars;rw [List.replicate_succ,List.replicate_succ',List.cons_append,List.cons_append,List.cons_append];simp
    rw [e,M_eq,if_neg (by simp [isU,isS_sgn]),if_pos (by rw [isS_sgn];rfl),List.tail_cons];by_cases hn:n=0
    · subst hn;unfold pars;rw [List.replicate_zero,List.replicate_zero,List.nil_append,List.append_nil,read_in hx m ln K,pop_par]
    · rw [ih _ _ (.inl (by omega)) (good_sgn (by decide) (by decide)),pop_par]
  refine key _ _ _ ?_ hu;unfold parN;by_cases hk:x.kd=6∨x.kd=7
  · left;rw [if_pos hk];omega
  · exact .inr hk
termination_by x=>SizeOf.sizeOf x
theorem read_exp {x:Ex} (hx:Fine x) (m:Nat) (ln:Int) {u:List To} (hu:good u) (hb:bndU u=0):exP (x.kl m ln++u) = .ok x u:=by
 rw [← M_exP,read_kid m ln x hx _ _ hu,Af_stay (fun h o e=>by cases e),if_pos hb,if_pos rfl]
end Go.Proofs.Ytflhcdcifilfcaa

namespace Go.Proofs.Ytflhcdcifilfcaa
open Go

def tyL (ln:Int) (t:Ty):List To:=
 if t.kd=1 then [wrd wInt ln] else if t.kd=2 then [wrd wBool ln] else if t.kd=3 then [sgn [91] ln,nuT t.n ln,sgn [93] ln,wrd wInt ln] else if t.kd=4 then [nmT t.nm ln] else []
inductive FineT:Ty→Prop
 | int:FineT ⟨1,0,[]⟩
 | bool:FineT ⟨2,0,[]⟩
 | arr (n:Int):0≤n→FineT ⟨3,n,[]⟩
 | name (nm:List UInt8):FineT ⟨4,0,nm⟩
def comL (m:Nat) (ln:Int):List Ex→List To
 | []=>[]
 | [x]=>x.kl m ln
 | x::y::l=>x.kl m ln++sgn [44] ln::comL m ln (y::l)
def arL (m:Nat) (ln:Int) (l:List Ex):List To:=sgn [40] ln::(comL m ln l++[sgn [41] ln])
mutual
def stL (m:Nat) (l0:Int):St→List To×St×Int
 | .mk kd _ nm fl cl ty ks bd el=>
  let ln:=l0+1
  let k:=fun (l:List Ex)=>(l.map (Ex.kl m ln)).flatten
  let s:St:= .mk kd ln nm fl cl ty ks bd el
  if kd=1 then (wrd wVar ln::nmT nm ln::(tyL ln ty++((if ks=[] then [] else sgn [61] ln::k ks)++[sgn [59] ln])),s,ln)
  else if kd=2 then (nmT nm ln::sgn [61] ln::(k ks++[sgn [59] ln]),s,ln)
  else if kd=3 then (nmT nm ln::sgn [91] ln::(k (ks.take 1)++sgn [93] ln::sgn [61] ln::(k (ks.drop 1)++[sgn [59] ln])),s,ln)
  else if kd=4 then (nmT nm ln::sgn [46] ln::nmT fl ln::sgn [61] ln::(k ks++[sgn [59] ln]),s,ln)
  else if kd=5 then ((if nm=[] then [] else [nmT nm ln,sgn [61] ln])++nmT cl ln::(arL m ln ks++[sgn [59] ln]),s,ln)
  else if kd=6 then
   let b:=stsL m ln bd
   if el=[] then (wrd wIf ln::(k ks++sgn [123] ln::(b.1++[sgn [125] b.2.2])),.mk kd ln nm fl cl ty ks b.2.1 el,b.2.2)
   else
    let e:=stsL m b.2.2 el
    (wrd wIf ln::(k ks++sgn [123] ln::(b.1++sgn [125] b.2.2::wrd wElse b.2.2::sgn [123] b.2.2::(e.1++[sgn [125] e.2.2]))),.mk kd ln nm fl cl ty ks b.2.1 e.2.1,e.2.2)
  else if kd=7 then
   let b:=stsL m ln bd
   (wrd wFor ln::(k ks++sgn [123] ln::(b.1++[sgn [125] b.2.2])),.mk kd ln nm fl cl ty ks b.2.1 el,b.2.2)
  else if kd=8 then (wrd wPrint ln::sgn [40] ln::(k ks++[sgn [41] ln,sgn [59] ln]),s,ln)
  else if kd=9 then ([nmT nm ln,sgn [61] ln,wrd wInput ln,sgn [40] ln,sgn [41] ln,sgn [59] ln],s,ln)
  else (wrd wReturn ln::(k ks++[sgn [59] ln]),s,ln)
def stsL (m:Nat) (l0:Int):List St→List To×List St×Int
 | []=>([],[],l0)
 | s::l=>
  let a:=stL m l0 s
  let b:=stsL m a.2.2 l
  (a.1++b.1,a.2.1::b.2.1,b.2.2)
end
inductive FineS:St→Prop
 | var (ln:Int) (nm:List UInt8) (ty:Ty):FineT ty→FineS (.mk 1 ln nm [] [] ty [] [] [])
 | vari (ln:Int) (nm:List UInt8) (ty:Ty) (x:Ex):FineT ty→Fine x→FineS (.mk 1 ln nm [] [] ty [x] [] [])
 | set (ln:Int) (nm:List UInt8) (x:Ex):Fine x→FineS (.mk 2 ln nm [] [] ty0 [x] [] [])
 | elem (ln:Int) (nm:List UInt8) (x y:Ex):Fine x→Fine y→FineS (.mk 3 ln nm [] [] ty0 [x,y] [] [])
 | field (ln:Int) (nm fl:List UInt8) (x:Ex):Fine x→FineS (.mk 4 ln nm fl [] ty0 [x] [] [])
 | call (ln:Int) (nm cl:List UInt8) (l:List Ex):(∀ x∈l,Fine x)→FineS (.mk 5 ln nm [] cl ty0 l [] [])
 | ifs (ln:Int) (x:Ex) (bd el:List St):Fine x→(∀ s∈bd,FineS s)→(∀ s∈el,FineS s)→FineS (.mk 6 ln [] [] [] ty0 [x] bd el)
 | fors (ln:Int) (x:Ex) (bd:List St):Fine x→(∀ s∈bd,FineS s)→FineS (.mk 7 ln [] [] [] ty0 [x] bd [])
 | print (ln:Int) (x:Ex):Fine x→FineS (.mk 8 ln [] [] [] ty0 [x] [] [])
 | input (ln:Int) (nm:List UInt8):FineS (.mk 9 ln nm [] [] ty0 [] [] [])
 | ret (ln:Int):FineS (.mk 10 ln [] [] [] ty0 [] [] [])
 | reti (ln:Int) (x:Ex):Fine x→FineS (.mk 10 ln [] [] [] ty0 [x] [] [])
section
variable {m:Nat} {ln l2:Int} {u:List To} {α:Type}
theorem take_s {s:List UInt8} {f:List To→R α}:takeS s (sgn s ln::u) f=f u:=by
 unfold takeS;rw [if_pos (by rw [isS_sgn];simp)];rfl
theorem take_w {s:List UInt8} {f:List To→R α}:takeW s (wrd s ln::u) f=f u:=by
 unfold takeW;rw [if_pos (by rw [isW_wr];simp)];rfl
theorem take_n {s:List UInt8} {f:To→List To→R α}:takeK 1 (nmT s ln::u) f=f (nmT s ln) u:=by
 unfold takeK;rw [if_pos (by rw [isK_nm];rfl)];rfl
theorem take_u {n:Int} {f:To→List To→R α}:takeK 2 (nuT n ln::u) f=f (nuT n ln) u:=by
 unfold takeK;rw [if_pos (by rw [isK_nu];rfl)];rfl
theorem read_to {x:Ex} (hx:Fine x) (s:List UInt8) (hb:bnd s=0) (h1:s≠[91]) (h2:s≠[46]):exP (x.kl m ln++sgn s l2::u) = .ok x (sgn s l2::u):=read_exp hx m ln (good_sgn h1 h2) ((bndU_sgn _ _ _).trans hb)
theorem read_ty {t:Ty} (ht:FineT t):tyP (tyL ln t++u) = .ok t u:=by
 cases ht with
 | int=>
  show tyP (wrd wInt ln::u)=_;unfold tyP;rw [if_pos (by rw [isW_wr];rfl)];rfl
 | bool=>
  show tyP (wrd wBool ln::u)=_;unfold tyP;rw [if_neg (by rw [isW_wr];decide),if_pos (by rw [isW_wr];rfl)];rfl
 | arr n hn=>
  show tyP (sgn [91] ln::nuT n ln::sgn [93] ln::wrd wInt ln::u)=_;unfold tyP;rw [if_neg (by rw [isW_sgn];decide),if_neg (by rw [isW_sgn];decide),if_pos (by rw [isS_sgn];rfl),List.tail_cons,take_u,take_s,take_w];rfl
 | name nm=>
  show tyP (nmT nm ln::u)=_;unfold tyP;rw [if_neg (by rw [isW_nm];decide),if_neg (by rw [isW_nm];decide),if_neg (by rw [isS_nm];decide),take_n];rfl
theorem kl_head {x:Ex} (hx:Fine x):(∃ r,x.kl m ln=sgn [40] ln::r)∨(∃ n r,x.kl m ln=nuT n ln::r)∨(∃ s r,(s=wTrue∨s=wFalse)∧x.kl m ln=wrd s ln::r)∨∃ s r,x.kl m ln=nmT s ln::r∧∀ u,¬ isS [40] u=true→¬ isS [40] (r++u)=true:=by
 unfold Ex.kl;rcases Nat.eq_zero_or_pos (parN m x) with h0 | h0
 · rw [h0];unfold pars;rw [List.replicate_zero,List.replicate_zero,nJ,List.append_nil];cases hx with
   | num n hn=>exact .inr (.inl ⟨n,[],ly_num _ _ _⟩)
   | bool n hn=>exact .inr (.inr (.inl ⟨_,[],by rcases hn with rfl | rfl<;>simp,ly_bool _ _ _⟩))
   | var nm=>exact .inr (.inr (.inr ⟨nm,[],ly_var _ _ _,fun u h=>h⟩))
   | elem nm y hy=>exact .inr (.inr (.inr ⟨nm,_,ly_elem _ _ _ _,fun u h=>by rw [nI,isS_sgn];decide⟩))
   | field nm fl=>exact .inr (.inr (.inr ⟨nm,_,ly_field _ _ _ _,fun u h=>by rw [nI,isS_sgn];decide⟩))
   | un op y ho hy=>
    exfalso;unfold parN at h0;rw [if_pos (.inl rfl)] at h0;omega
   | bin op y z ho hy hz=>
    exfalso;unfold parN at h0;rw [if_pos (.inr rfl)] at h0;omega
 · left;obtain ⟨n,hn⟩:=Nat.exists_eq_succ_of_ne_zero (show parN m x≠0 by omega);rw [hn];unfold pars;rw [Nat.succ_eq_add_one,List.replicate_succ,nI,nI];exact ⟨_,rfl⟩
theorem kl_isS {x:Ex} (hx:Fine x) {s:List UInt8} (hs:s≠[40]):isS s (x.kl m ln++u)=false:=by
 rcases kl_head (m:=m) (ln:=ln) hx with ⟨r,e⟩ | ⟨n,r,e⟩ | ⟨w,r,_,e⟩ | ⟨w,r,e,_⟩<;>rw [e,nI]
 · rw [isS_sgn,decide_eq_false fun q=>hs q.symm]
 · rw [isS_nu]
 · rw [isS_wr]
 · rw [isS_nm]
theorem kl_pos {x:Ex} (hx:Fine x):0 < (x.kl m ln).length:=by
 rcases kl_head (m:=m) (ln:=ln) hx with ⟨r,e⟩ | ⟨n,r,e⟩ | ⟨w,r,_,e⟩ | ⟨w,r,e,_⟩<;>rw [e]<;>simp
theorem com_len (l:List Ex):(∀ x∈l,Fine x)→l.length≤(comL m ln l).length:=by
 induction l with
 | nil=>intro _;exact Nat.zero_le _
 | cons x l ih=>
  intro h;have hx:=kl_pos (m:=m) (ln:=ln) (h x (by simp));cases l with
  | nil=>rw [comL];simp;omega
  | cons y l=>
   (have:=ih fun z hz=>h z (List.mem_cons_of_mem _ hz));rw [comL,nH];simp only [nF] at this ⊢;omega
theorem read_com:∀ (l:List Ex),l≠[]→(∀ x∈l,Fine x)→∀ n,l.length≤n→comP exP n (comL m ln l++sgn [41] l2::u) = .ok l u
 | [],h,_,_,_=>absurd rfl h
 | [x],_,hf,n,hn=>by
  obtain ⟨k,rfl⟩:=Nat.exists_eq_succ_of_ne_zero (show n≠0 by rw [List.length_singleton] at hn;omega);rw [Nat.succ_eq_add_one,comP,comL,read_to (hf x (by simp)) [41] (by decide) (by decide) (by decide),R.bind_ok,if_neg (by rw [isS_sgn];decide),take_s]
 | x::y::l,_,hf,n,hn=>by
  obtain ⟨k,rfl⟩:=Nat.exists_eq_succ_of_ne_zero (show n≠0 by rw [nF] at hn;omega)
  rw [Nat.succ_eq_add_one,comP,comL,List.append_assoc,nI,read_to (hf x (by simp)) [44] (by decide) (by decide) (by decide),R.bind_ok,if_pos (by rw [isS_sgn];rfl),List.tail_cons,
   read_com (y::l) (by simp) (fun z hz=>hf z (List.mem_cons_of_mem _ hz)) k (by rw [nF] at hn ⊢;rw [nF] at hn;omega),R.bind_ok]
theorem read_args {l:List Ex} (hf:∀ x∈l,Fine x):argP (comL m ln l++sgn [41] l2::u) = .ok l u:=by
 unfold argP lisP;cases l with
 | nil=>
  rw [comL,nJ,if_pos (by rw [isS_sgn];rfl)];rfl
 | cons x l=>
  have hx:=hf x (by simp);have h0:isS [41] (comL m ln (x::l)++sgn [41] l2::u)=false:=by
   cases l with
   | nil=>rw [comL];exact kl_isS hx (by decide)
   | cons y l=>rw [comL,List.append_assoc];exact kl_isS hx (by decide)
  rw [if_neg (by rw [h0];decide)];refine read_com _ (by simp) hf _ ?_;have:=com_len (m:=m) (ln:=ln) _ hf;rw [nH];omega
end
end Go.Proofs.Ytflhcdcifilfcaa
