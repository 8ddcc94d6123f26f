/-
  Merged for a claim: S3H, S3I, SNA, S1F.
-/
import Derived.Test.YtflhcdcifilfcaaHJ13
import Derived.Test.YtflhcdcifilfcaaHS1E
import Derived.Test.YtflhcdcifilfcaaHJ1
namespace Go.Proofs.Ytflhcdcifilfcaa
open Go Go.RowKit

section
variable {α:Type} {K:El α} {T:TypeId} {cs cs':Value→List Value} {X X':World→Prop} {w W Z:World} {gp gs:Nat} {A:Option Addr} {c:Nat} {l u u':List To} {fl f':Bool} {vc v v9:Value} {xs:List α} {y:α}
end
end Go.Proofs.Ytflhcdcifilfcaa

namespace Go.Proofs.Ytflhcdcifilfcaa
open Go Go.RowKit

section
variable {w W1 W Z:World} {gp gs pb:Nat} {A:Option Addr} {c:Nat} {l u u':List To} {fl f':Bool} {vc v v9:Value} {ps:List Pm} {nm:List UInt8} {ln:Int} {rs:Ty} {vb:Value} {T:World→Prop}
end
end Go.Proofs.Ytflhcdcifilfcaa

namespace Go.Proofs.Ytflhcdcifilfcaa
open Go

def R.rem {α:Type}:R α→Nat
 | .ok _ u=>u.length
 | .bad u=>u.length
 | .out=>0
def Lg {α:Type} (r r':R α) (b:List To):Prop:=r' = .out∨match r with
 | .ok x v=>if v=[] then r'.rem≤b.length else r' = .ok x (v++b)
 | .bad v=>if v=[] then r'.rem≤b.length else r' = .bad (v++b)
 | .out=>True
def Mo {α:Type} (f:List To→R α):Prop:=∀ u,(f u).rem≤u.length
structure Lo {α:Type} (f f':List To→R α):Prop where
 m:Mo f
 m':Mo f'
 g:∀ t v b,Lg (f (t::v)) (f' (t::v++b)) b
section
variable {α β:Type} {f f' g g':List To→R α}
theorem Lg.of0 {r r':R α} {b:List To} (h:r.rem=0) (h2:r'.rem≤b.length):Lg r r' b:=by
 refine .inr ?_;rcases r with ⟨x,v⟩ | v | _
 · have:v=[]:=List.eq_nil_of_length_eq_zero h;subst this;exact h2
 · have:v=[]:=List.eq_nil_of_length_eq_zero h;subst this;exact h2
 · trivial
theorem Lo.all (h:Lo f f') (u b:List To):Lg (f u) (f' (u++b)) b:=by
 cases u with
 | nil=>exact Lg.of0 (Nat.le_zero.1 (h.m [])) (h.m' b)
 | cons t v=>exact h.g t v b
theorem Lo.ok (x:α):Lo (fun u=> .ok x u) (fun u=> .ok x u):=⟨fun _=>Nat.le_refl _,fun _=>Nat.le_refl _,fun t v b=> .inr (by
 show if t::v=[] then _ else _
 rw [if_neg (by simp)])⟩
theorem Lo.bad:Lo (fun u=>(.bad u:R α)) (fun u=> .bad u):=⟨fun _=>Nat.le_refl _,fun _=>Nat.le_refl _,fun t v b=> .inr (by
 show if t::v=[] then _ else _
 rw [if_neg (by simp)])⟩
theorem rem_bind {r:R α} {k:α→List To→R β} {n:Nat} (h:r.rem≤n) (hk:∀ x,Mo (k x)):(r.bind k).rem≤n:=by
 rcases r with ⟨x,v⟩ | v | _
 · exact Nat.le_trans (hk x v) h
 · exact h
 · exact Nat.zero_le _
theorem Lg.bind {r r':R α} {b:List To} {k k':α→List To→R β} (h:Lg r r' b) (hk:∀ x,Lo (k x) (k' x)):Lg (r.bind k) (r'.bind k') b:=by
 rcases h with h | h
 · subst h;exact .inl rfl
 · rcases r with ⟨x,v⟩ | v | _
   · dsimp only at h;split at h
     · rename_i hv;subst hv;exact Lg.of0 (Nat.le_zero.1 ((hk x).m [])) (rem_bind h fun x=>(hk x).m')
     · subst h;exact (hk x).all v b
   · dsimp only at h;split at h
     · rename_i hv;subst hv;exact Lg.of0 rfl (rem_bind h fun x=>(hk x).m')
     · rename_i hv;subst h;refine .inr ?_;(show if v=[] then _ else _);rw [if_neg hv];rfl
   · exact .inr trivial
theorem Lo.bind {k k':α→List To→R β} (h:Lo f f') (hk:∀ x,Lo (k x) (k' x)):Lo (fun u=>(f u).bind k) (fun u=>(f' u).bind k'):=
 ⟨fun u=>rem_bind (h.m u) fun x=>(hk x).m,fun u=>rem_bind (h.m' u) fun x=>(hk x).m',fun t v b=>(h.g t v b).bind hk⟩
theorem Lo.ifN {p:List To→Prop} [DecidablePred p] (hp:∀ t v b,p (t::v++b)↔p (t::v)) (h:Lo f f') (h2:Lo g g'):Lo (fun u=>if p u then f u else g u) (fun u=>if p u then f' u else g' u):=by
 refine ⟨fun u=>?_,fun u=>?_,fun t v b=>?_⟩
 · (try dsimp only);split
   · exact h.m u
   · exact h2.m u
 · (try dsimp only);split
   · exact h.m' u
   · exact h2.m' u
 · (try dsimp only);by_cases hq:p (t::v)
   · rw [if_pos hq,if_pos ((hp t v b).2 hq)];exact h.g t v b
   · rw [if_neg hq,if_neg (fun q=>hq ((hp t v b).1 q))];exact h2.g t v b
theorem Lo.tl {k k':To→List To→R α} (h:∀ t,Lo (k t) (k' t)):Lo (fun u=>k (hd u) u.tail) (fun u=>k' (hd u) u.tail):=
 ⟨fun u=>Nat.le_trans ((h _).m _) (by simp),fun u=>Nat.le_trans ((h _).m' _) (by simp),fun t v b=>(h t).all v b⟩
theorem Lo.tl0 (h:Lo f f'):Lo (fun u=>f u.tail) (fun u=>f' u.tail):=Lo.tl (k:=fun _=>f) (k':=fun _=>f') fun _=>h
theorem Lo.fuel {F F':Nat→List To→R α} (k k':List To→Nat) (h:∀ n m,Lo (F n) (F' m)):Lo (fun u=>F (k u) u) (fun u=>F' (k' u) u):=
 ⟨fun u=>(h (k u) 0).m u,fun u=>(h 0 (k' u)).m' u,fun t v b=>(h _ _).g t v b⟩
theorem Lo.out (h:Mo f'):Lo (fun _=> .out) f':=⟨fun _=>Nat.zero_le _,h,fun _ _ _=> .inr trivial⟩
theorem Lo.out' (h:Mo f):Lo f (fun _=> .out):=⟨h,fun _=>Nat.zero_le _,fun _ _ _=> .inl rfl⟩
theorem isT_cc (kd:Int) (tx:List UInt8) (t:To) (v b:List To):isT kd tx (t::v++b)=true↔isT kd tx (t::v)=true:=Iff.rfl
theorem isK_cc (kd:Int) (t:To) (v b:List To):isK kd (t::v++b)=true↔isK kd (t::v)=true:=Iff.rfl
theorem Lo.takeS (tx:List UInt8) (h:Lo f f'):Lo (fun u=>takeS tx u f) (fun u=>takeS tx u f'):=Lo.ifN (p:=fun u=>isS tx u=true) (isT_cc 4 tx) (Lo.tl0 h) Lo.bad
theorem Lo.takeW (tx:List UInt8) (h:Lo f f'):Lo (fun u=>takeW tx u f) (fun u=>takeW tx u f'):=Lo.ifN (p:=fun u=>isW tx u=true) (isT_cc 3 tx) (Lo.tl0 h) Lo.bad
theorem Lo.takeK (kd:Int) {k k':To→List To→R α} (h:∀ t,Lo (k t) (k' t)):Lo (fun u=>takeK kd u k) (fun u=>takeK kd u k'):=Lo.ifN (p:=fun u=>isK kd u=true) (isK_cc kd) (Lo.tl h) Lo.bad
theorem Lo.ifS (tx:List UInt8) (h:Lo f f') (h2:Lo g g'):Lo (fun u=>if isS tx u=true then f u else g u) (fun u=>if isS tx u=true then f' u else g' u):=Lo.ifN (p:=fun u=>isS tx u=true) (isT_cc 4 tx) h h2
theorem Lo.ifW (tx:List UInt8) (h:Lo f f') (h2:Lo g g'):Lo (fun u=>if isW tx u=true then f u else g u) (fun u=>if isW tx u=true then f' u else g' u):=Lo.ifN (p:=fun u=>isW tx u=true) (isT_cc 3 tx) h h2
theorem Lo.ifK (kd:Int) (h:Lo f f') (h2:Lo g g'):Lo (fun u=>if isK kd u=true then f u else g u) (fun u=>if isK kd u=true then f' u else g' u):=Lo.ifN (p:=fun u=>isK kd u=true) (isK_cc kd) h h2
def Nc (f:List To→R α):Prop:=∀ t b,isK 1 (t::b)=true→(f (t::b)).rem≤b.length
theorem Nc.takeK {k:To→List To→R α} (h:∀ t,Mo (k t)):Nc (fun u=>takeK 1 u k):=fun t b ht=>by
 (try dsimp only);unfold Go.Proofs.Ytflhcdcifilfcaa.takeK;rw [if_pos ht];exact h _ _
theorem Nc.bind {k:α→List To→R β} (h:Nc f) (hk:∀ x,Mo (k x)):Nc (fun u=>(f u).bind k):=fun t b ht=>rem_bind (h t b ht) hk
theorem Lo.ifC (tx:List UInt8) {k k':To→List To→R α} (h:∀ t,Lo (k t) (k' t)) (h2:Lo g g') (hc:Nc g) (hc':Nc g') :
 Lo (fun u=>if (isK 1 u && isS tx u.tail)=true then k (hd u) u.tail.tail else g u) (fun u=>if (isK 1 u && isS tx u.tail)=true then k' (hd u) u.tail.tail else g' u):=by
 refine ⟨fun u=>?_,fun u=>?_,fun t v b=>?_⟩
 · (try dsimp only);split
   · exact Nat.le_trans ((h _).m _) (by simp;omega)
   · exact h2.m u
 · (try dsimp only);split
   · exact Nat.le_trans ((h _).m' _) (by simp;omega)
   · exact h2.m' u
 · (try dsimp only);cases v with
   | cons t2 v=>
    by_cases hq:(isK 1 (t::t2::v) && isS tx (t::t2::v).tail)=true
    · have hq2:(isK 1 (t::t2::v++b) && isS tx (t::t2::v++b).tail)=true:=hq;rw [if_pos hq,if_pos hq2];exact (h t).all v b
    · have hq2:¬ (isK 1 (t::t2::v++b) && isS tx (t::t2::v++b).tail)=true:=hq;rw [if_neg hq,if_neg hq2];exact h2.g t (t2::v) b
   | nil=>
    (have e:(isK 1 [t] && isS tx [t].tail)=false:=by rw [Bool.and_eq_false_iff];exact .inr rfl);rw [e,if_neg (by decide)];cases hk:isK 1 [t]
    · have e2:(isK 1 (t::[]++b) && isS tx (t::[]++b).tail)=false:=by
       rw [show isK 1 (t::[]++b)=isK 1 [t] from rfl,hk];rfl
      rw [e2,if_neg (by decide)];exact h2.g t [] b
    · refine Lg.of0 (Nat.le_zero.1 (hc t [] hk)) ?_;split
      · exact Nat.le_trans ((h _).m' _) (by simp)
      · exact hc' t b hk
end
theorem leafN_lo (nm:List UInt8):Lo (leafN nm) (leafN nm):=Lo.ifS [46] (Lo.tl0 (Lo.takeK 1 fun _=>Lo.ok _)) (Lo.ok _)
theorem leafP_lo:Lo leafP leafP:=
 Lo.ifK 2 (Lo.tl (k:=fun t v=> .ok (eNum t.nu) v) (k':=fun t v=> .ok (eNum t.nu) v) fun _=>Lo.ok _) (Lo.ifW wTrue (Lo.tl0 (Lo.ok _)) (Lo.ifW wFalse (Lo.tl0 (Lo.ok _)) (Lo.takeK 1 fun t=>leafN_lo t.tx)))
theorem leafP_nc:Nc leafP:=fun t b ht=>by
 unfold leafP;split
 · exact Nat.le_refl _
 · split
   · exact Nat.le_refl _
   · split
     · exact Nat.le_refl _
     · exact Nc.takeK (fun t=>(leafN_lo t.tx).m) t b ht
theorem isU_hd (t:To) (v b:List To):isU (t::v++b)=true↔isU (t::v)=true:=Iff.rfl
theorem name_noU {t:To} {b:List To} (h:isK 1 (t::b)=true):isU (t::b)=false∧isS [40] (t::b)=false:=by
 have h1:t.kd=1:=of_decide_eq_true h;unfold isU isS isT;simp [h1]
def PxL (n m:Nat):Prop:=(Lo (prim n) (prim m)∧Nc (prim n)∧Nc (prim m))∧(∀ k,Lo (lev n k) (lev m k)∧Nc (lev n k)∧Nc (lev m k))∧∀ k x,Lo (lop n k x) (lop m k x)
theorem prim_nc {n:Nat} (hm:∀ k,Mo (lev n k)):Nc (prim (n+1)):=fun t b ht=>by
 rw [prim,(name_noU ht).1,(name_noU ht).2,if_neg (by decide),if_neg (by decide)];split
 · (refine rem_bind (Nat.le_trans (hm 0 _) (by simp)) fun x v=>?_);exact (Lo.takeS [93] (Lo.ok _)).m v
 · exact leafP_nc t b ht
theorem lev_nc {n k:Nat} (hp:Nc (prim n)) (hl:Nc (lev n (k+1))) (ho:∀ x,Mo (lop n k x)):Nc (lev (n+1) k):=fun t b ht=>by
 rw [lev];split
 · exact hp t b ht
 · exact rem_bind (hl t b ht) ho
theorem ex_step {n m:Nat} (h:PxL n m):PxL (n+1) (m+1):=by
 obtain ⟨⟨hp,hn,hn'⟩,hl,ho⟩:=h;refine ⟨⟨?_,prim_nc fun k=>(hl k).1.m,prim_nc fun k=>(hl k).1.m'⟩,fun k=>⟨?_,lev_nc hn (hl _).2.1 fun x=>(ho k x).m,lev_nc hn' (hl _).2.2 fun x=>(ho k x).m'⟩,fun k x=>?_⟩
 · show Lo (fun u=>prim (n+1) u) (fun u=>prim (m+1) u);simp only [prim,isE];exact Lo.ifN (p:=fun u=>isU u=true) isU_hd (Lo.tl (k:=fun t v=>(prim n v).bind fun x w=> .ok (eUn t.tx x) w) (k':=fun t v=>(prim m v).bind fun x w=> .ok (eUn t.tx x) w) fun t=>Lo.bind hp fun x=>Lo.ok _)
    (Lo.ifS [40] (Lo.tl0 (f:=fun v=>(lev n 0 v).bind fun x w=>takeS [41] w fun v2=> .ok x v2) (f':=fun v=>(lev m 0 v).bind fun x w=>takeS [41] w fun v2=> .ok x v2) (Lo.bind (hl 0).1 fun x=>Lo.takeS [41] (Lo.ok x)))
     (Lo.ifC [91] (k:=fun t v=>(lev n 0 v).bind fun x w=>takeS [93] w fun v2=> .ok (eElem t.tx x) v2) (k':=fun t v=>(lev m 0 v).bind fun x w=>takeS [93] w fun v2=> .ok (eElem t.tx x) v2) (fun t=>Lo.bind (hl 0).1 fun x=>Lo.takeS [93] (Lo.ok _)) leafP_lo leafP_nc leafP_nc))
 · show Lo (fun u=>lev (n+1) k u) (fun u=>lev (m+1) k u);simp only [lev];exact Lo.ifN (p:=fun _=>5≤k) (fun _ _ _=>Iff.rfl) hp (Lo.bind (hl (k+1)).1 fun x=>ho k x)
 · show Lo (fun u=>lop (n+1) k x u) (fun u=>lop (m+1) k x u);simp only [lop];exact Lo.ifN (p:=fun u=>bndU u=k+1) (fun _ _ _=>Iff.rfl) (Lo.tl (k:=fun t v=>(lev n (k+1) v).bind fun y w=>lop n k (eBin t.tx x y) w) (k':=fun t v=>(lev m (k+1) v).bind fun y w=>lop m k (eBin t.tx x y) w) fun t=>Lo.bind (hl (k+1)).1 fun y=>ho k _) (Lo.ok x)
theorem ex_zero:PxL 0 0:=⟨⟨Lo.out fun _=>Nat.zero_le _,fun _ _ _=>Nat.zero_le _,fun _ _ _=>Nat.zero_le _⟩,fun _=>⟨Lo.out fun _=>Nat.zero_le _,fun _ _ _=>Nat.zero_le _,fun _ _ _=>Nat.zero_le _⟩,fun _ _=>Lo.out fun _=>Nat.zero_le _⟩
theorem ex_nn:∀ n,PxL n n
 | 0=>ex_zero
 | n+1=>ex_step (ex_nn n)
theorem ex_lo:∀ n m,PxL n m
 | 0,m=>⟨⟨Lo.out (ex_nn m).1.1.m,fun _ _ _=>Nat.zero_le _,(ex_nn m).1.2.1⟩,fun k=>⟨Lo.out ((ex_nn m).2.1 k).1.m,fun _ _ _=>Nat.zero_le _,((ex_nn m).2.1 k).2.1⟩,fun k x=>Lo.out ((ex_nn m).2.2 k x).m⟩
 | n+1,0=>⟨⟨Lo.out' (ex_nn (n+1)).1.1.m,(ex_nn (n+1)).1.2.1,fun _ _ _=>Nat.zero_le _⟩,fun k=>⟨Lo.out' ((ex_nn (n+1)).2.1 k).1.m,((ex_nn (n+1)).2.1 k).2.1,fun _ _ _=>Nat.zero_le _⟩,fun k x=>Lo.out' ((ex_nn (n+1)).2.2 k x).m⟩
 | n+1,m+1=>ex_step (ex_lo n m)
theorem exP_lo:Lo exP exP:=Lo.fuel (F:=fun n=>lev n 0) (F':=fun n=>lev n 0) _ _ fun n m=>((ex_lo n m).2.1 0).1
theorem exP_nc:Nc exP:=fun t b ht=>((ex_nn _).2.1 0).2.1 t b ht
theorem tyP_lo:Lo tyP tyP:=
 Lo.ifW wInt (Lo.tl0 (Lo.ok _)) (Lo.ifW wBool (Lo.tl0 (Lo.ok _)) (Lo.ifS [91] (Lo.tl0 (f:=fun v=>takeK 2 v fun t v=>takeS [93] v fun w=>takeW wInt w fun z=> .ok (⟨3,t.nu,[]⟩:Ty) z) (f':=fun v=>takeK 2 v fun t v=>takeS [93] v fun w=>takeW wInt w fun z=> .ok (⟨3,t.nu,[]⟩:Ty) z) (Lo.takeK 2 fun _t=>Lo.takeS [93] (Lo.takeW wInt (Lo.ok _)))) (Lo.takeK 1 fun _t=>Lo.ok _)))
section
variable {α:Type} {one:List To→R α} (h:Lo one one)
include h
theorem com_step {n m:Nat} (hc:Lo (comP one n) (comP one m)):Lo (comP one (n+1)) (comP one (m+1)):=by
 show Lo (fun u=>comP one (n+1) u) (fun u=>comP one (m+1) u);simp only [comP];exact Lo.bind h fun x=>Lo.ifS [44] (Lo.tl0 (f:=fun v=>(comP one n v).bind fun l w=> .ok (x::l) w) (f':=fun v=>(comP one m v).bind fun l w=> .ok (x::l) w) (Lo.bind hc fun l=>Lo.ok _)) (Lo.takeS [41] (Lo.ok _))
theorem com_nn:∀ n,Lo (comP one n) (comP one n)
 | 0=>Lo.out fun _=>Nat.zero_le _
 | n+1=>com_step h (com_nn n)
theorem com_lo:∀ n m,Lo (comP one n) (comP one m)
 | 0,m=>Lo.out (com_nn h m).m
 | n+1,0=>Lo.out' (com_nn h (n+1)).m
 | n+1,m+1=>com_step h (com_lo n m)
theorem lisP_lo:Lo (lisP one) (lisP one):=Lo.ifS [41] (Lo.tl0 (Lo.ok _)) (Lo.fuel (F:=fun n=>comP one n) (F':=fun n=>comP one n) _ _ (com_lo h))
end
theorem argP_lo:Lo argP argP:=lisP_lo exP_lo
theorem semi_lo (s:St):Lo (semi s) (semi s):=Lo.takeS [59] (Lo.ok s)
theorem setP_lo (ln:Int) (nm:List UInt8):Lo (setP ln nm) (setP ln nm):=by
 have hx:Lo (fun u=>(exP u).bind fun x v=>R.ok (stm 2 ln nm [] [] ty0 [x]) v) (fun u=>(exP u).bind fun x v=>R.ok (stm 2 ln nm [] [] ty0 [x]) v):=Lo.bind exP_lo fun x=>Lo.ok _
 have hc:Nc (fun u=>(exP u).bind fun x v=>R.ok (stm 2 ln nm [] [] ty0 [x]) v):=Nc.bind exP_nc fun x=>(Lo.ok _).m
 exact Lo.ifW wInput (Lo.tl0 (f:=fun v=>takeS [40] v fun v=>takeS [41] v fun w=> .ok (stm 9 ln nm [] [] ty0 []) w) (f':=fun v=>takeS [40] v fun v=>takeS [41] v fun w=> .ok (stm 9 ln nm [] [] ty0 []) w) (Lo.takeS [40] (Lo.takeS [41] (Lo.ok _))))
  (Lo.ifC [40] (k:=fun t v=>(argP v).bind fun l v=> .ok (stm 5 ln nm [] t.tx ty0 l) v) (k':=fun t v=>(argP v).bind fun l v=> .ok (stm 5 ln nm [] t.tx ty0 l) v) (fun t=>Lo.bind argP_lo fun l=>Lo.ok _) hx hc hc)
def nmdK (ln:Int) (t:To) (v:List To):R St:=
 if isS [91] v=true then (exP v.tail).bind fun x w=>takeS [93] w fun z=>takeS [61] z fun y=>(exP y).bind fun e q=> .ok (stm 3 ln t.tx [] [] ty0 [x,e]) q
 else if isS [46] v=true then takeK 1 v.tail fun f w=>takeS [61] w fun z=>(exP z).bind fun x q=> .ok (stm 4 ln t.tx f.tx [] ty0 [x]) q
 else takeS [61] v fun w=>setP ln t.tx w
theorem nmdK_lo (ln:Int) (t:To):Lo (nmdK ln t) (nmdK ln t):=
 Lo.ifS [91] (Lo.tl0 (f:=fun v=>(exP v).bind fun x w=>takeS [93] w fun z=>takeS [61] z fun y=>(exP y).bind fun e q=> .ok (stm 3 ln t.tx [] [] ty0 [x,e]) q) (f':=fun v=>(exP v).bind fun x w=>takeS [93] w fun z=>takeS [61] z fun y=>(exP y).bind fun e q=> .ok (stm 3 ln t.tx [] [] ty0 [x,e]) q) (Lo.bind exP_lo fun _x=>Lo.takeS [93] (Lo.takeS [61] (Lo.bind exP_lo fun _e=>Lo.ok _))))
  (Lo.ifS [46] (Lo.tl0 (f:=fun v=>takeK 1 v fun f w=>takeS [61] w fun z=>(exP z).bind fun x q=> .ok (stm 4 ln t.tx f.tx [] ty0 [x]) q) (f':=fun v=>takeK 1 v fun f w=>takeS [61] w fun z=>(exP z).bind fun x q=> .ok (stm 4 ln t.tx f.tx [] ty0 [x]) q) (Lo.takeK 1 fun _f=>Lo.takeS [61] (Lo.bind exP_lo fun _x=>Lo.ok _)))
   (Lo.takeS [61] (setP_lo ln t.tx)))
theorem nmdP_lo (ln:Int):Lo (nmdP ln) (nmdP ln):=by
 have h:Lo (fun u=>takeK 1 u (nmdK ln)) (fun u=>takeK 1 u (nmdK ln)):=Lo.takeK 1 fun t=>nmdK_lo ln t
 have hc:Nc (fun u=>takeK 1 u (nmdK ln)):=Nc.takeK fun t=>(nmdK_lo ln t).m
 exact Lo.ifC [40] (k:=fun t v=>(argP v).bind fun l v=> .ok (stm 5 ln [] [] t.tx ty0 l) v) (k':=fun t v=>(argP v).bind fun l v=> .ok (stm 5 ln [] [] t.tx ty0 l) v) (fun t=>Lo.bind argP_lo fun l=>Lo.ok _) h hc hc
theorem varP_lo (ln:Int):Lo (varP ln) (varP ln):=
 Lo.takeK 1 fun t=>Lo.bind tyP_lo fun ty=>Lo.ifS [61] (Lo.tl0 (f:=fun v=>(exP v).bind fun x z=> .ok (stm 1 ln t.tx [] [] ty [x]) z) (f':=fun v=>(exP v).bind fun x z=> .ok (stm 1 ln t.tx [] [] ty [x]) z) (Lo.bind exP_lo fun _x=>Lo.ok _)) (Lo.ok _)
theorem hdP_lo:Lo hdP hdP:=by
 have h1:∀ (kd:Int),Lo (fun u:List To=>(exP u.tail).bind fun x v=>R.ok (stm kd (hd u).ln [] [] [] ty0 [x]) v) (fun u:List To=>(exP u.tail).bind fun x v=>R.ok (stm kd (hd u).ln [] [] [] ty0 [x]) v):=fun kd=>
  Lo.tl (k:=fun t w=>(exP w).bind fun x v=>R.ok (stm kd t.ln [] [] [] ty0 [x]) v) (k':=fun t w=>(exP w).bind fun x v=>R.ok (stm kd t.ln [] [] [] ty0 [x]) v) fun t=>Lo.bind exP_lo fun x=>Lo.ok _
 have h3:Lo (fun u:List To=>(varP (hd u).ln u.tail).bind semi) (fun u:List To=>(varP (hd u).ln u.tail).bind semi):=
  Lo.tl (k:=fun t w=>(varP t.ln w).bind semi) (k':=fun t w=>(varP t.ln w).bind semi) fun t=>Lo.bind (varP_lo _) semi_lo
 have h4:Lo (fun u:List To=>takeS [40] u.tail fun v=>(exP v).bind fun x w=>takeS [41] w fun z=>semi (stm 8 (hd u).ln [] [] [] ty0 [x]) z) (fun u:List To=>takeS [40] u.tail fun v=>(exP v).bind fun x w=>takeS [41] w fun z=>semi (stm 8 (hd u).ln [] [] [] ty0 [x]) z):=
  Lo.tl (k:=fun t w=>takeS [40] w fun v=>(exP v).bind fun x w=>takeS [41] w fun z=>semi (stm 8 t.ln [] [] [] ty0 [x]) z) (k':=fun t w=>takeS [40] w fun v=>(exP v).bind fun x w=>takeS [41] w fun z=>semi (stm 8 t.ln [] [] [] ty0 [x]) z) fun t=>Lo.takeS [40] (Lo.bind exP_lo fun x=>Lo.takeS [41] (semi_lo _))
 have h5:Lo (fun u:List To=>if isS [59] u.tail=true then semi (stm 10 (hd u).ln [] [] [] ty0 []) u.tail else (exP u.tail).bind fun x v=>semi (stm 10 (hd u).ln [] [] [] ty0 [x]) v) (fun u:List To=>if isS [59] u.tail=true then semi (stm 10 (hd u).ln [] [] [] ty0 []) u.tail else (exP u.tail).bind fun x v=>semi (stm 10 (hd u).ln [] [] [] ty0 [x]) v):=
  Lo.tl (k:=fun t w=>if isS [59] w=true then semi (stm 10 t.ln [] [] [] ty0 []) w else (exP w).bind fun x v=>semi (stm 10 t.ln [] [] [] ty0 [x]) v) (k':=fun t w=>if isS [59] w=true then semi (stm 10 t.ln [] [] [] ty0 []) w else (exP w).bind fun x v=>semi (stm 10 t.ln [] [] [] ty0 [x]) v) fun t=>Lo.ifS [59] (semi_lo _) (Lo.bind exP_lo fun x=>semi_lo _)
 have h6:Lo (fun u:List To=>(nmdP (hd u).ln u).bind semi) (fun u:List To=>(nmdP (hd u).ln u).bind semi):=
  ⟨fun u=>rem_bind ((nmdP_lo _).m u) fun s=>(semi_lo s).m,fun u=>rem_bind ((nmdP_lo _).m u) fun s=>(semi_lo s).m,fun t v b=>Lg.bind ((nmdP_lo _).g t v b) semi_lo⟩
 exact Lo.ifW wIf (h1 6) (Lo.ifW wFor (h1 7) (Lo.ifW wVar h3 (Lo.ifW wPrint h4 (Lo.ifW wReturn h5 h6))))
def PsL (n m:Nat):Prop:=Lo (staP n) (staP m)∧Lo (blkP n) (blkP m)∧Lo (lstP n) (lstP m)
theorem sta_step {n m:Nat} (h:PsL n m):PsL (n+1) (m+1):=by
 obtain ⟨hs,hb,hl⟩:=h;refine ⟨?_,?_,?_⟩
 · show Lo (fun u=>staP (n+1) u) (fun u=>staP (m+1) u);simp only [staP];(refine Lo.bind hdP_lo fun s=>?_);by_cases h6:s.kd=6
   · simp only [if_pos h6];exact Lo.bind hb fun b=>Lo.ifW wElse (Lo.tl0 (f:=fun w=>(blkP n w).bind fun e z=> .ok ((s.setB b).setE e) z) (f':=fun w=>(blkP m w).bind fun e z=> .ok ((s.setB b).setE e) z) (Lo.bind hb fun e=>Lo.ok _)) (Lo.ok _)
   · simp only [if_neg h6];by_cases h7:s.kd=7
     · simp only [if_pos h7];exact Lo.bind hb fun b=>Lo.ok _
     · simp only [if_neg h7];exact Lo.ok _
 · show Lo (fun u=>blkP (n+1) u) (fun u=>blkP (m+1) u);simp only [blkP];exact Lo.takeS [123] hl
 · show Lo (fun u=>lstP (n+1) u) (fun u=>lstP (m+1) u);simp only [lstP];exact Lo.ifS [125] (Lo.tl0 (Lo.ok _)) (Lo.bind hs fun s=>Lo.bind hl fun l=>Lo.ok _)
theorem sta_nn:∀ n,PsL n n
 | 0=>⟨Lo.out fun _=>Nat.zero_le _,Lo.out fun _=>Nat.zero_le _,Lo.out fun _=>Nat.zero_le _⟩
 | n+1=>sta_step (sta_nn n)
theorem sta_lo:∀ n m,PsL n m
 | 0,m=>⟨Lo.out (sta_nn m).1.m,Lo.out (sta_nn m).2.1.m,Lo.out (sta_nn m).2.2.m⟩
 | n+1,0=>⟨Lo.out' (sta_nn (n+1)).1.m,Lo.out' (sta_nn (n+1)).2.1.m,Lo.out' (sta_nn (n+1)).2.2.m⟩
 | n+1,m+1=>sta_step (sta_lo n m)
theorem blP_lo:Lo blP blP:=Lo.fuel (F:=fun n=>blkP n) (F':=fun n=>blkP n) _ _ fun n m=>(sta_lo n m).2.1
theorem fld_step {n m:Nat} (h:Lo (fldP n) (fldP m)):Lo (fldP (n+1)) (fldP (m+1)):=by
 show Lo (fun u=>fldP (n+1) u) (fun u=>fldP (m+1) u);simp only [fldP];exact Lo.ifS [125] (Lo.tl0 (Lo.ok _)) (Lo.takeK 1 fun t=>Lo.takeW wInt (Lo.takeS [59] (Lo.bind h fun l=>Lo.ok _)))
theorem fld_nn:∀ n,Lo (fldP n) (fldP n)
 | 0=>Lo.out fun _=>Nat.zero_le _
 | n+1=>fld_step (fld_nn n)
theorem fld_lo:∀ n m,Lo (fldP n) (fldP m)
 | 0,m=>Lo.out (fld_nn m).m
 | n+1,0=>Lo.out' (fld_nn (n+1)).m
 | n+1,m+1=>fld_step (fld_lo n m)
theorem pmP_lo:Lo pmP pmP:=Lo.takeK 1 fun _t=>Lo.bind tyP_lo fun _ty=>Lo.ok _
theorem rsP_lo:Lo rsP rsP:=Lo.ifS [123] (Lo.ok _) tyP_lo
theorem proP_out (u:List To):proP u ≠ .out:=pgP_out _ _ _ (Nat.lt_succ_self _)
theorem pgP_end:∀ n x u y v,pgP n x u = .ok y v→v=[]
 | 0,_,_,_,_,h=>by cases h
 | n+1,x,u,y,v,h=>by
  rw [pgP] at h;split at h
  · injection h with _ h;exact h.symm
  · split at h
    · obtain ⟨s,w,_,h2⟩:=bind_is h;exact pgP_end n _ _ _ _ h2
    · obtain ⟨s,w,_,h2⟩:=bind_is h;exact pgP_end n _ _ _ _ h2
theorem proP_end {u v:List To} {y:Pg} (h:proP u = .ok y v):v=[]:=pgP_end _ _ _ _ _ h
end Go.Proofs.Ytflhcdcifilfcaa

namespace Go.Proofs.Ytflhcdcifilfcaa
open Go

abbrev mostT:Nat:=1000000
mutual
def Ex.few:Ex→Prop
 | .mk _ _ _ _ _ ks=>exsF ks
def exsF:List Ex→Prop
 | []=>True
 | x::l=>l.length+1≤mostT∧x.few∧exsF l
end
mutual
def St.few:St→Prop
 | .mk _ _ _ _ _ _ ks bd el=>exsF ks∧stsF bd∧stsF el
def stsF:List St→Prop
 | []=>True
 | s::l=>l.length+1≤mostT∧s.few∧stsF l
end
def Sc.few (s:Sc):Prop:=s.fs.length≤mostT
def Dc.few (d:Dc):Prop:=d.ps.length≤mostT∧stsF d.bd
def Pg.few (p:Pg):Prop:=p.ss.length+p.fs.length≤mostT∧(∀ s∈p.ss,s.few)∧∀ d∈p.fs,d.few
def Al {α:Type} (P:α→Prop) (f:List To→R α):Prop:=∀ u x v,u.length≤mostT→f u = .ok x v→P x
section
variable {α β:Type} {P:α→Prop} {Q:β→Prop} {f g:List To→R α}
theorem Al.ok {x:α} (h:P x):Al P (fun u=> .ok x u):=fun u y v _ e=>by
 injection e with e;subst e;exact h
theorem Al.bad:Al P (fun u=> .bad u):=fun u y v _ e=>by cases e
theorem Al.out:Al P (fun _=> .out):=fun u y v _ e=>by cases e
theorem Al.bind {k:α→List To→R β} (hm:Mo f) (h:Al P f) (hk:∀ x,P x→Al Q (k x)):Al Q (fun u=>(f u).bind k):=fun u y w hu e=>by
 obtain ⟨x,v,e1,e2⟩:=bind_is e;have h1:=hm u;rw [e1] at h1;exact hk x (h u x v hu e1) v y w (Nat.le_trans h1 hu) e2
theorem Al.ite {p:List To→Prop} [DecidablePred p] (h:Al P f) (h2:Al P g):Al P (fun u=>if p u then f u else g u):=fun u y v hu e=>by
 dsimp only at e;split at e
 · exact h u y v hu e
 · exact h2 u y v hu e
theorem Al.tl {k:To→List To→R α} (h:∀ t,Al P (k t)):Al P (fun u=>k (hd u) u.tail):=fun u y v hu e=>h _ _ y v (by simp;omega) e
theorem Al.tl0 (h:Al P f):Al P (fun u=>f u.tail):=Al.tl (k:=fun _=>f) fun _=>h
theorem Al.takeS (tx:List UInt8) (h:Al P f):Al P (fun u=>takeS tx u f):=Al.ite (p:=fun u=>isS tx u=true) (Al.tl0 h) Al.bad
theorem Al.takeW (tx:List UInt8) (h:Al P f):Al P (fun u=>takeW tx u f):=Al.ite (p:=fun u=>isW tx u=true) (Al.tl0 h) Al.bad
theorem Al.takeK (kd:Int) {k:To→List To→R α} (h:∀ t,Al P (k t)):Al P (fun u=>takeK kd u k):=Al.ite (p:=fun u=>isK kd u=true) (Al.tl h) Al.bad
theorem Al.fuel {F:Nat→List To→R α} (k:List To→Nat) (h:∀ n,Al P (F n)):Al P (fun u=>F (k u) u):=fun u x v hu e=>h _ u x v hu e
theorem Al.any (f:List To→R α):Al (fun _=>True) f:=fun _ _ _ _ _=>trivial
end
theorem few_leaf (kd nu:Int) (nm fl op:List UInt8):(Ex.mk kd nu nm fl op []).few:=by rw [Ex.few,exsF];trivial
theorem few_one {x:Ex} (kd nu:Int) (nm fl op:List UInt8) (h:x.few):(Ex.mk kd nu nm fl op [x]).few:=by rw [Ex.few,exsF,exsF];exact ⟨by simp [mostT],h,trivial⟩
theorem few_two {x y:Ex} (kd nu:Int) (nm fl op:List UInt8) (h:x.few) (h2:y.few):(Ex.mk kd nu nm fl op [x,y]).few:=by rw [Ex.few,exsF,exsF,exsF];exact ⟨by simp [mostT],h,by simp [mostT],h2,trivial⟩
theorem leafN_al (nm:List UInt8):Al Ex.few (leafN nm):=Al.ite (p:=fun u=>isS [46] u=true) (Al.tl0 (Al.takeK 1 fun _t=>Al.ok (few_leaf _ _ _ _ _))) (Al.ok (few_leaf _ _ _ _ _))
theorem leafP_al:Al Ex.few leafP:=
 Al.ite (p:=fun u=>isK 2 u=true) (Al.tl (k:=fun t v=> .ok (eNum t.nu) v) fun _t=>Al.ok (few_leaf _ _ _ _ _)) (Al.ite (p:=fun u=>isW wTrue u=true) (Al.tl0 (Al.ok (few_leaf _ _ _ _ _))) (Al.ite (p:=fun u=>isW wFalse u=true) (Al.tl0 (Al.ok (few_leaf _ _ _ _ _))) (Al.takeK 1 fun t=>leafN_al t.tx)))
theorem ex_al:∀ n,Al Ex.few (prim n)∧(∀ k,Al Ex.few (lev n k))∧∀ k x,x.few→Al Ex.few (lop n k x)
 | 0=>⟨Al.out,fun _=>Al.out,fun _ _ _=>Al.out⟩
 | n+1=>by
  obtain ⟨hp,hl,ho⟩:=ex_al n;obtain ⟨⟨mp,_⟩,ml,mo⟩:=ex_nn n;refine ⟨?_,fun k=>?_,fun k x hx=>?_⟩
  · show Al Ex.few (fun u=>prim (n+1) u);simp only [prim];exact Al.ite (p:=fun u=>isU u=true) (Al.tl (k:=fun t v=>(prim n v).bind fun x w=> .ok (eUn t.tx x) w) fun t=>Al.bind mp.m hp fun x q=>Al.ok (few_one _ _ _ _ _ q))
     (Al.ite (p:=fun u=>isS [40] u=true) (Al.tl0 (f:=fun v=>(lev n 0 v).bind fun x w=>takeS [41] w fun v2=> .ok x v2) (Al.bind (ml 0).1.m (hl 0) fun x q=>Al.takeS [41] (Al.ok q)))
      (Al.ite (p:=fun u=>isE u=true) (Al.tl (k:=fun t w=>(lev n 0 w.tail).bind fun x w=>takeS [93] w fun v2=> .ok (eElem t.tx x) v2) fun t=>Al.tl0 (f:=fun v=>(lev n 0 v).bind fun x w=>takeS [93] w fun v2=> .ok (eElem t.tx x) v2) (Al.bind (ml 0).1.m (hl 0) fun x q=>Al.takeS [93] (Al.ok (few_one _ _ _ _ _ q)))) leafP_al))
  · show Al Ex.few (fun u=>lev (n+1) k u);simp only [lev];exact Al.ite (p:=fun _=>5≤k) hp (Al.bind (ml (k+1)).1.m (hl (k+1)) fun x q=>ho k x q)
  · show Al Ex.few (fun u=>lop (n+1) k x u);simp only [lop];exact Al.ite (p:=fun u=>bndU u=k+1) (Al.tl (k:=fun t v=>(lev n (k+1) v).bind fun y w=>lop n k (eBin t.tx x y) w) fun t=>Al.bind (ml (k+1)).1.m (hl (k+1)) fun y q=>ho k _ (few_two _ _ _ _ _ hx q)) (Al.ok hx)
theorem exP_al:Al Ex.few exP:=Al.fuel (F:=fun n=>lev n 0) _ fun n=>(ex_al n).2.1 0
section
variable {α:Type} {P:α→Prop} {one:List To→R α}
theorem com_al (hm:Lo one one) (h:Al P one) (h1:∀ u x v,one u = .ok x v→v.length+1≤u.length):∀ n u l v,u.length≤mostT→comP one n u = .ok l v→l.length+v.length≤u.length∧∀ x∈l,P x
 | 0,_,_,_,_,e=>by cases e
 | n+1,u,l,v,hu,e=>by
  rw [comP] at e;obtain ⟨x,w,e1,e⟩:=bind_is e;have hw:=h1 _ _ _ e1;have hx:=h _ _ _ hu e1;split at e
  · obtain ⟨l2,w2,e2,e⟩:=bind_is e;(have ht:w.tail.length≤w.length:=by simp);have:=com_al hm h h1 n _ _ _ (by omega) e2;injection e with e3 e4;subst e3 e4;exact ⟨by rw [List.length_cons];omega,fun y q=>(List.mem_cons.1 q).elim (fun e=>by rw [e];exact hx) (this.2 y)⟩
  · obtain ⟨h3,e⟩:=takeS_len e;have:=tail_len h3;injection e with e3 e4;subst e3 e4;exact ⟨by simp;omega,fun y q=>by rw [List.mem_singleton.1 q];exact hx⟩
theorem lis_al (hm:Lo one one) (h:Al P one) (h1:∀ u x v,one u = .ok x v→v.length+1≤u.length):Al (fun l:List α=>l.length≤mostT∧∀ x∈l,P x) (lisP one):=fun u l v hu e=>by
 unfold lisP at e;split at e
 · injection e with e _;subst e;exact ⟨by simp,fun x q=>absurd q (by simp)⟩
 · have:=com_al hm h h1 _ _ _ _ hu e;exact ⟨by omega,this.2⟩
end
theorem exsF_of:∀ {l:List Ex},l.length≤mostT→(∀ x∈l,x.few)→exsF l
 | [],_,_=>by rw [exsF];trivial
 | x::l,h,hx=>by
  rw [exsF];rw [List.length_cons] at h;exact ⟨h,hx x (by simp),exsF_of (by omega) fun y q=>hx y (by simp [q])⟩
theorem argP_al:Al exsF argP:=fun u l v hu e=>by
 have:=lis_al exP_lo exP_al (fun _ _ _ h=>exP_len h) u l v hu e;exact exsF_of this.1 this.2
theorem stm_few {kd ln:Int} {nm fl cl:List UInt8} {ty:Ty} {ks:List Ex} (h:exsF ks):(stm kd ln nm fl cl ty ks).few:=by
 unfold stm;rw [St.few,stsF];exact ⟨h,trivial,trivial⟩
theorem one_few {x:Ex} (h:x.few):exsF [x]:=exsF_of (by simp [mostT]) fun y q=>by rw [List.mem_singleton.1 q];exact h
theorem two_few {x y:Ex} (h:x.few) (h2:y.few):exsF [x,y]:=exsF_of (by simp [mostT]) fun z q=>by
 rcases List.mem_cons.1 q with rfl | q
 · exact h
 · rw [List.mem_singleton.1 q];exact h2
theorem nil_few:exsF []:=by rw [exsF];trivial
theorem semi_al {s:St} (h:s.few):Al St.few (semi s):=Al.takeS [59] (Al.ok h)
theorem setP_al (ln:Int) (nm:List UInt8):Al St.few (setP ln nm):=
 Al.ite (p:=fun u=>isW wInput u=true) (Al.tl0 (f:=fun v=>takeS [40] v fun v=>takeS [41] v fun w=> .ok (stm 9 ln nm [] [] ty0 []) w) (Al.takeS [40] (Al.takeS [41] (Al.ok (stm_few nil_few)))))
  (Al.ite (p:=fun u=>isC u=true) (Al.tl (k:=fun t v=>(argP v.tail).bind fun l v=> .ok (stm 5 ln nm [] t.tx ty0 l) v) fun t=>Al.tl0 (f:=fun v=>(argP v).bind fun l v=> .ok (stm 5 ln nm [] t.tx ty0 l) v) (Al.bind argP_lo.m argP_al fun _l q=>Al.ok (stm_few q))) (Al.bind exP_lo.m exP_al fun _x q=>Al.ok (stm_few (one_few q))))
theorem nmdK_al (ln:Int) (t:To):Al St.few (nmdK ln t):=
 Al.ite (p:=fun u=>isS [91] u=true) (Al.tl0 (f:=fun v=>(exP v).bind fun x w=>takeS [93] w fun z=>takeS [61] z fun y=>(exP y).bind fun e q=> .ok (stm 3 ln t.tx [] [] ty0 [x,e]) q) (Al.bind exP_lo.m exP_al fun _x q=>Al.takeS [93] (Al.takeS [61] (Al.bind exP_lo.m exP_al fun _e q2=>Al.ok (stm_few (two_few q q2))))))
  (Al.ite (p:=fun u=>isS [46] u=true) (Al.tl0 (f:=fun v=>takeK 1 v fun f w=>takeS [61] w fun z=>(exP z).bind fun x q=> .ok (stm 4 ln t.tx f.tx [] ty0 [x]) q) (Al.takeK 1 fun _f=>Al.takeS [61] (Al.bind exP_lo.m exP_al fun _x q=>Al.ok (stm_few (one_few q)))))
   (Al.takeS [61] (setP_al ln t.tx)))
theorem nmdP_al (ln:Int):Al St.few (nmdP ln):=
 Al.ite (p:=fun u=>isC u=true) (Al.tl (k:=fun t v=>(argP v.tail).bind fun l v=> .ok (stm 5 ln [] [] t.tx ty0 l) v) fun t=>Al.tl0 (f:=fun v=>(argP v).bind fun l v=> .ok (stm 5 ln [] [] t.tx ty0 l) v) (Al.bind argP_lo.m argP_al fun _l q=>Al.ok (stm_few q))) (Al.takeK 1 fun t=>nmdK_al ln t)
theorem varP_al (ln:Int):Al St.few (varP ln):=
 Al.takeK 1 fun t=>Al.bind tyP_lo.m (Al.any tyP) fun ty _=>Al.ite (p:=fun u=>isS [61] u=true) (Al.tl0 (f:=fun v=>(exP v).bind fun x z=> .ok (stm 1 ln t.tx [] [] ty [x]) z) (Al.bind exP_lo.m exP_al fun _x q=>Al.ok (stm_few (one_few q)))) (Al.ok (stm_few nil_few))
theorem hdP_al:Al St.few hdP:=fun u x v hu e=>by
 have ht:u.tail.length≤mostT:=Nat.le_trans (by simp) hu;unfold hdP at e;split at e
 · obtain ⟨y,w,e1,e⟩:=bind_is e;injection e with e _;subst e;exact stm_few (one_few (exP_al _ _ _ ht e1))
 · split at e
   · obtain ⟨y,w,e1,e⟩:=bind_is e;injection e with e _;subst e;exact stm_few (one_few (exP_al _ _ _ ht e1))
   · split at e
     · exact Al.bind (varP_lo _).m (varP_al _) (fun s q=>semi_al q) _ _ _ ht e
     · split at e
       · exact Al.takeS [40] (Al.bind exP_lo.m exP_al fun x q=>Al.takeS [41] (semi_al (stm_few (one_few q)))) _ _ _ ht e
       · split at e
         · split at e
           · exact semi_al (stm_few nil_few) _ _ _ ht e
           · exact Al.bind exP_lo.m exP_al (fun x q=>semi_al (stm_few (one_few q))) _ _ _ ht e
         · exact Al.bind (nmdP_lo _).m (nmdP_al _) (fun s q=>semi_al q) _ _ _ hu e
theorem setB_few {s:St} {b:List St} (h:s.few) (hb:stsF b):(s.setB b).few:=by
 obtain ⟨kd,ln,nm,fl,cl,ty,ks,bd,el⟩:=s;rw [St.setB];rw [St.few] at h ⊢;exact ⟨h.1,hb,h.2.2⟩
theorem setE_few {s:St} {b:List St} (h:s.few) (hb:stsF b):(s.setE b).few:=by
 obtain ⟨kd,ln,nm,fl,cl,ty,ks,bd,el⟩:=s;rw [St.setE];rw [St.few] at h ⊢;exact ⟨h.1,h.2.1,hb⟩
theorem sta_al:∀ n,Al St.few (staP n)∧Al stsF (blkP n)∧∀ u l v,u.length≤mostT→lstP n u = .ok l v→l.length+v.length+1≤u.length∧stsF l
 | 0=>⟨Al.out,Al.out,fun u l v _ e=>by cases e⟩
 | n+1=>by
  obtain ⟨hs,hb,hl⟩:=sta_al n;obtain ⟨ms,mb,ml⟩:=sta_nn n;refine ⟨?_,?_,fun u l v hu e=>?_⟩
  · show Al St.few (fun u=>staP (n+1) u);simp only [staP];(refine Al.bind hdP_lo.m hdP_al fun s q=>?_);by_cases h6:s.kd=6
    · simp only [if_pos h6];exact Al.bind mb.m hb fun b qb=>Al.ite (p:=fun u=>isW wElse u=true) (Al.tl0 (f:=fun w=>(blkP n w).bind fun e z=> .ok ((s.setB b).setE e) z) (Al.bind mb.m hb fun e qe=>Al.ok (setE_few (setB_few q qb) qe))) (Al.ok (setB_few q qb))
    · simp only [if_neg h6];by_cases h7:s.kd=7
      · simp only [if_pos h7];exact Al.bind mb.m hb fun b qb=>Al.ok (setB_few q qb)
      · simp only [if_neg h7];exact Al.ok q
  · show Al stsF (fun u=>blkP (n+1) u);simp only [blkP];exact Al.takeS [123] fun u l v hu e=>(hl u l v hu e).2
  · rw [lstP] at e;split at e
    · rename_i hq;have:=tail_len (isS_ne hq);injection e with e1 e2;subst e1 e2;exact ⟨by simp;omega,by rw [stsF];trivial⟩
    · obtain ⟨s,w,e1,e⟩:=bind_is e;obtain ⟨l2,w2,e2,e⟩:=bind_is e;(have hw:=(enoughS n).1 u |>.2 _ _ e1);have:=hl _ _ _ (by omega) e2;injection e with e3 e4;subst e3 e4;refine ⟨by rw [List.length_cons];omega,?_⟩;rw [stsF];exact ⟨by omega,hs _ _ _ hu e1,this.2⟩
theorem blP_al:Al stsF blP:=Al.fuel (F:=fun n=>blkP n) _ fun n=>(sta_al n).2.1
theorem fld_al:∀ n u l v,fldP n u = .ok l v→l.length+v.length≤u.length
 | 0,_,_,_,e=>by cases e
 | n+1,u,l,v,e=>by
  rw [fldP] at e;split at e
  · injection e with e1 e2;subst e1 e2;simp
  · obtain ⟨h1,e⟩:=takeK_len e;obtain ⟨h2,e⟩:=takeW_len e;obtain ⟨h3,e⟩:=takeS_len e;have:=tail_len h1;have:=tail_len h2;have:=tail_len h3;obtain ⟨l2,w2,e2,e⟩:=bind_is e;have:=fld_al n _ _ _ e2;injection e with e3 e4;subst e3 e4;rw [List.length_cons];omega
theorem scP_al:Al Sc.few scP:=Al.takeW wType (Al.takeK 1 fun t=>Al.takeW wStruct (Al.takeS [123] (Al.bind (P:=fun l:List (List UInt8)=>l.length≤mostT) (Lo.fuel (F:=fun n=>fldP n) (F':=fun n=>fldP n) (fun y=>y.length+1) (fun y=>y.length+1) fld_lo).m (fun u l v hu e=>by have:=fld_al _ _ _ _ e;omega) fun l q=>Al.ok q)))
theorem dcP_al:Al Dc.few dcP:=fun u x v hu e=>by
 unfold dcP at e;exact Al.takeW wFunc (Al.takeK 1 fun t=>Al.takeS [40] (Al.bind (lisP_lo pmP_lo).m (lis_al (P:=fun _=>True) pmP_lo (Al.any pmP) (fun _ _ _ h=>pmP_len h)) fun ps q=>Al.bind rsP_lo.m (Al.any rsP) fun rs _=>Al.bind blP_lo.m blP_al fun b qb=>Al.ok (P:=Dc.few) (x:=⟨t.tx,(hd u).ln,ps,rs,b⟩) ⟨q.1,qb⟩)) u x v hu e
theorem pg_al:∀ n x u y v,pgP n x u = .ok y v→u.length≤mostT→x.ss.length+x.fs.length+u.length≤mostT→(∀ s∈x.ss,s.few)→(∀ d∈x.fs,d.few)→y.few
 | 0,_,_,_,_,e,_,_,_,_=>by cases e
 | n+1,x,u,y,v,e,hu,hl,hs,hd=>by
  rw [pgP] at e;split at e
  · injection e with e _;subst e;exact ⟨by omega,hs,hd⟩
  · split at e
    · obtain ⟨s,w,e1,e⟩:=bind_is e;have:=scP_len e1;exact pg_al n _ _ _ _ e (by omega) (by simp;omega) (fun t q=>(List.mem_append.1 q).elim (hs t) (fun e=>by rw [List.mem_singleton.1 e];exact scP_al _ _ _ hu e1)) hd
    · obtain ⟨s,w,e1,e⟩:=bind_is e;have:=dcP_len e1;exact pg_al n _ _ _ _ e (by omega) (by simp;omega) hs (fun t q=>(List.mem_append.1 q).elim (hd t) (fun e=>by rw [List.mem_singleton.1 e];exact dcP_al _ _ _ hu e1))
theorem proP_few {u v:List To} {y:Pg} (hu:u.length≤mostT) (h:proP u = .ok y v):y.few:=pg_al _ _ _ _ _ h hu (by simpa using hu) (fun _ q=>absurd q (by simp)) fun _ q=>absurd q (by simp)
end Go.Proofs.Ytflhcdcifilfcaa
