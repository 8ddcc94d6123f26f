/-
  Merged for a claim: S1A, S3A, S3B, S3C, S3D, S3E, S3F, S3G.
-/
import Derived.Test.YtflhcdcifilfcaaHS0J
import Derived.Test.YtflhcdcifilfcaaHJ8
import Derived.BigQuiet
import Derived.Deep.CutBlock
namespace Go.Proofs.Ytflhcdcifilfcaa
open Go Go.RowKit

def eSr:El (List UInt8):=⟨9,1,fun s=>[.string (str s)],fun _=>rfl,fun x u hu=>by simp at hu;subst hu;rfl,by omega⟩
def ePm:El Pm:=⟨75,4,fun p=>[.string (str p.nm),.int .u8 p.ty.kd,.int .i64 p.ty.n,.string (str p.ty.nm)],fun _=>rfl,fun x u hu=>by simp at hu;rcases hu with rfl | rfl | rfl | rfl<;>rfl,by omega⟩
structure ScM where
 nm:List UInt8
 A:Option Addr
 c:Nat
 fs:List (List UInt8)
def ScM.cs (s:ScM):List Value:=[.string (str s.nm),.slice s.A s.fs.length s.c]
def ScM.d (s:ScM):Sc:=⟨s.nm,s.fs⟩
def ScM.Ok (w:World) (P:Nat→Prop) (s:ScM):Prop:=RowP eSr w P s.A s.c s.fs
def eSc:El ScM:=⟨69,2,ScM.cs,fun _=>rfl,fun x u hu=>by simp [ScM.cs] at hu;rcases hu with rfl | rfl<;>rfl,by omega⟩
structure DcM where
 nm:List UInt8
 ln:Int
 pA:Option Addr
 pc:Nat
 ps:List Pm
 rs:Ty
 bA:Option Addr
 bc:Nat
 bd:List XS
def DcM.cs (d:DcM):List Value:=[.string (str d.nm),.int .i64 d.ln,.slice d.pA d.ps.length d.pc,.int .u8 d.rs.kd,.int .i64 d.rs.n,.string (str d.rs.nm),.slice d.bA d.bd.length d.bc]
def DcM.d (d:DcM):Dc:=⟨d.nm,d.ln,d.ps,d.rs,xssd d.bd⟩
def DcM.Ok (w:World) (P:Nat→Prop) (d:DcM):Prop:=RowP ePm w P d.pA d.pc d.ps∧RowP eSt w P d.bA d.bc d.bd∧xssOk w P d.bd
def eDc:El DcM:=⟨48,7,DcM.cs,fun _=>rfl,fun x u hu=>by simp [DcM.cs] at hu;rcases hu with rfl | rfl | rfl | rfl | rfl | rfl | rfl<;>rfl,by omega⟩
theorem sr_info:(Try.prog.info? 9).map (fun i=>(i.zero,i.size,i.bytes))=some (some (.string ⟨#[]⟩),1,16):=by kernel_rfl
theorem pm_info:(Try.prog.info? 75).map (fun i=>(i.zero,i.size,i.bytes))=some (some (.agg #[.string ⟨#[]⟩,.int .u8 0,.int .i64 0,.string ⟨#[]⟩]),4,48):=by kernel_rfl
theorem sc_info:(Try.prog.info? 69).map (fun i=>(i.zero,i.size,i.bytes))=some (some (.agg #[.string ⟨#[]⟩,.slice none 0 0]),2,40):=by kernel_rfl
theorem dc_info:(Try.prog.info? 48).map (fun i=>(i.zero,i.size,i.bytes))=some (some (.agg #[.string ⟨#[]⟩,.int .i64 0,.slice none 0 0,.int .u8 0,.int .i64 0,.string ⟨#[]⟩,.slice none 0 0]),7,104):=by kernel_rfl
def FrT (Ts:List TypeId) (W Z:World):Prop:=∀ k e,HasT W k e→e ∉ Ts→Z.heap[k]? = W.heap[k]?
theorem FrT.of_but {T:TypeId} {Ts:List TypeId} {W Z:World} (h:ButT T W Z) (hT:T∈Ts):FrT Ts W Z:=fun k e hk he=>h k e hk (fun q=>he (q ▸ hT))
theorem FrT.of_below {Ts:List TypeId} {W Z:World} (h:Below W.heap.size W Z):FrT Ts W Z:=fun k _ hk _=>h.block k hk.lt
theorem ScM.Ok.keep {W Z:World} {P Q:Nat→Prop} {s:ScM} (h:s.Ok W P) (hf:∀ g,P g→HasT W g 9→Z.heap[g]? = W.heap[g]?) (hm:∀ g,P g→Q g):s.Ok Z Q:=RowP.keep h hf hm
theorem DcM.Ok.keep {W Z:World} {P Q:Nat→Prop} {d:DcM} (h:d.Ok W P) (h0:∀ g,P g→HasT W g 75→Z.heap[g]? = W.heap[g]?) (h1:∀ g,P g→HasT W g 53→Z.heap[g]? = W.heap[g]?) (h2:∀ g,P g→HasT W g 51→Z.heap[g]? = W.heap[g]?) (hm:∀ g,P g→Q g):d.Ok Z Q:=
 ⟨h.1.keep h0 hm,h.2.1.keep h2 hm,xssOk.keep h1 h2 hm _ h.2.2⟩
structure RwW {α:Type} (K:El α) (T:TypeId) (cs:Value→List Value) (X:World→Prop) (w:World) (gp gs:Nat) (A:Option Addr) (c:Nat) (l:List To) (vc v:Value) (xs:List α) (W:World) (u:List To):Prop where
 p:Ps W gp A c l u
 s:CAt W gs T (cs vc)
 r:K.Own W w.heap.size v xs
 x:X W
 g:w.grownBy W (some gp)
 n:gp < w.heap.size∧w.heap.size≤gs∧xs.length+u.length≤l.length
 kx:∀ W Z,FrT [57,T,K.e] W Z→X W→X Z
 t:T≠57∧K.e≠57∧K.e≠T
section
variable {α:Type} {K:El α} {T:TypeId} {cs cs':Value→List Value} {X X':World→Prop} {w W Z:World} {gp gs:Nat} {A:Option Addr} {c:Nat} {l u u':List To} {vc v v9:Value} {xs:List α} {y:α}
theorem RwW.below (h:RwW K T cs X w gp gs A c l vc v xs W u) (hb:Below W.heap.size W Z):RwW K T cs X w gp gs A c l vc v xs Z u:=
 ⟨h.p.next hb,h.s.below hb h.s.lt,h.r.below hb,h.kx _ _ (.of_below hb) h.x,grown_trans h.g (grown_below hb _),h.n,h.kx,h.t⟩
theorem RwW.drew (h:RwW K T cs X w gp gs A c l vc v xs W u):RwW K T cs X w gp gs A c l vc v xs W.drew u:=h.below ((Below.refl _ W).drew)
theorem RwW.step (h:RwW K T cs X w gp gs A c l vc v xs W u) (hp:Ps Z gp A c l u') (hg:W.grownBy Z (some gp)) (hu:u'.length≤u.length):RwW K T cs X w gp gs A c l vc v xs Z u':=by
 have hb:ButT 57 W Z:=ButT.grown hg fun k e=>by injection e with e;subst e;exact h.p.has
 have hn:=h.n;exact ⟨hp,(hb gs _ ⟨_,_,h.s⟩ h.t.1).trans h.s,h.r.but hb h.t.2.1,h.kx _ _ (.of_but hb (by simp)) h.x,grown_trans h.g hg,⟨hn.1,hn.2.1,by omega⟩,h.kx,h.t⟩
theorem RwW.app (h:RwW K T cs X w gp gs A c l vc v xs W u) (hg:W.grownBy Z v.ownBlock) (ho:K.Own Z w.heap.size v9 (xs++[y])) (hl:xs.length+1+u.length≤l.length) (hx:X' Z) (hk:∀ W Z,FrT [57,T,K.e] W Z→X' W→X' Z):RwW K T cs X' w gp gs A c l vc v9 (xs++[y]) Z u:=by
 have hb:ButT K.e W Z:=ButT.grown hg fun k e=>h.r.has k e
 have hn:=h.n;have hz:w.heap.size≤W.heap.size:=h.g.size;have hB:Below w.heap.size W Z:=(Below.refl _ _).grown hg hz (fun k e=>(h.r.lt k e).1);exact ⟨h.p.below hB hn.1,(hb gs _ ⟨_,_,h.s⟩ (fun e=>h.t.2.2 e.symm)).trans h.s,ho,hx,grown_new h.g hB,⟨hn.1,hn.2.1,by rw [nH,List.length_singleton];exact hl⟩,hk,h.t⟩
theorem RwW.frApp (h:RwW K T cs X w gp gs A c l vc v xs W u) (hg:W.grownBy Z v.ownBlock):FrT [57,T,K.e] W Z:= .of_but (ButT.grown hg fun k e=>h.r.has k e) (by simp)
theorem RwW.cell (h:RwW K T cs X w gp gs A c l vc v xs W u) (j:Nat) (z vd:Value) (hs:(cs vc).set j z=cs' vd):RwW K T cs' X w gp gs A c l vd v xs (W.setCell ⟨gs,j,none⟩ z) u:=by
 have hn:=h.n;have hb:ButT T W (W.setCell ⟨gs,j,none⟩ z):=ButT.set (p:=⟨gs,j,none⟩) ⟨_,_,h.s⟩ z;have hB:Below w.heap.size W (W.setCell ⟨gs,j,none⟩ z):=(Below.refl _ _).setCell (p:=⟨gs,j,none⟩) hn.2.1 z;have h1:=h.s.set j z;rw [hs] at h1;exact ⟨h.p.below hB hn.1,h1,h.r.but hb h.t.2.2,h.kx _ _ (.of_but hb (by simp)) h.x,grown_new h.g hB,hn,h.kx,h.t⟩
theorem El.Own.rowP {B:Nat} (h:K.Own W B v xs):∃ A2 c2,v = .slice A2 xs.length c2∧RowP K W (fun g=>B≤g) A2 c2 xs:=by
 obtain ⟨A2,c2,e2,k1,k2,k3⟩:=h.form;refine ⟨A2,c2,e2,k3,k1,k2,fun hl d e=>?_⟩;obtain ⟨g8,c8,e8⟩:=El.Own.at0 h hl;have e9:=e8;rw [e2] at e8;injection e8 with e8;rw [e] at e8;injection e8 with e8;subst e8;exact (h.lt g8 (by rw [e9];rfl)).1
end
end Go.Proofs.Ytflhcdcifilfcaa

namespace Go.Proofs.Ytflhcdcifilfcaa
open Go Go.RowKit

section
variable {w W Z:World} {gp:Nat} {A:Option Addr} {c:Nat} {l u u':List To} {fl f':Bool} {b z:Nat} {s s':XS}
section
variable {kd ln k:Int} {nm f cl tx:List UInt8} {ty t:Ty} {kA bA eA:Option Addr} {kc bc ec:Nat} {ks:List XT} {bd el:List XS}
end
end
end Go.Proofs.Ytflhcdcifilfcaa

namespace Go.Proofs.Ytflhcdcifilfcaa
open Go Go.RowKit

section
variable {w W:World} {gp:Nat} {A:Option Addr} {c:Nat} {l u:List To} {fl:Bool} {b z:Nat} {s:XS}
end
end Go.Proofs.Ytflhcdcifilfcaa

namespace Go.Proofs.Ytflhcdcifilfcaa
open Go.ChangeShapes Go.WideShapes Go.ChangeAt Go.Deep
open Go Go.RowKit

namespace El
variable {α:Type} {ops:Array Oper} {o:Oper} {a:Act} {Q:Exit→Act→World→Prop} {C:Act→World→Prop}
end El
section
variable {w W Z:World} {gp:Nat} {A:Option Addr} {c:Nat} {l u u':List To} {fl f':Bool} {b z bx:Nat} {s:XS} {x:XT}
end
end Go.Proofs.Ytflhcdcifilfcaa

namespace Go.Proofs.Ytflhcdcifilfcaa
open Go.ChangeShapes Go.WideShapes Go.ChangeAt Go.Deep
open Go Go.RowKit

section
variable {w W:World} {gp:Nat} {A:Option Addr} {c:Nat} {l u u':List To} {fl f':Bool} {b z bx:Nat} {s s':XS} {x:XT}
end
end Go.Proofs.Ytflhcdcifilfcaa

namespace Go.Proofs.Ytflhcdcifilfcaa
open Go Go.RowKit

theorem isT_text {kd:Int} {a b:List UInt8} {u:List To} (h:isT kd a u=true) (h2:isT kd b u=true):a=b:=by
 cases u with
 | nil=>cases h
 | cons t v=>
  unfold isT at h h2;simp at h h2;rw [← h.2,← h2.2]
theorem isW_no {a b:List UInt8} {u:List To} (h:isW a u=true) (hab:a≠b):¬ isW b u=true:=fun q=>hab (isT_text h q)
theorem varP_kd {ln:Int} {u v:List To} {x:St} (h:varP ln u = .ok x v):x.kd=1:=by
 unfold varP at h;obtain ⟨_,h⟩:=takeK_len h;obtain ⟨ty,w,_,h⟩:=bind_is h;split at h
 · obtain ⟨y,w,_,h⟩:=bind_is h;injection h with h _;rw [← h];rfl
 · injection h with h _;rw [← h];rfl
theorem setP_kd {ln:Int} {nm:List UInt8} {u v:List To} {x:St} (h:setP ln nm u = .ok x v):x.kd≠6∧x.kd≠7:=by
 unfold setP at h;split at h
 · obtain ⟨_,h⟩:=takeS_len h;obtain ⟨_,h⟩:=takeS_len h;injection h with h _;rw [← h];exact ⟨(by decide:(9:Int)≠6),(by decide:(9:Int)≠7)⟩
 · split at h
   · obtain ⟨y,w,_,h⟩:=bind_is h;injection h with h _;rw [← h];exact ⟨(by decide:(5:Int)≠6),(by decide:(5:Int)≠7)⟩
   · obtain ⟨y,w,_,h⟩:=bind_is h;injection h with h _;rw [← h];exact ⟨(by decide:(2:Int)≠6),(by decide:(2:Int)≠7)⟩
theorem nmdP_kd {ln:Int} {u v:List To} {x:St} (h:nmdP ln u = .ok x v):x.kd≠6∧x.kd≠7:=by
 unfold nmdP at h;split at h
 · obtain ⟨y,w,_,h⟩:=bind_is h;injection h with h _;rw [← h];exact ⟨(by decide:(5:Int)≠6),(by decide:(5:Int)≠7)⟩
 · obtain ⟨_,h⟩:=takeK_len h;split at h
   · obtain ⟨y,w,_,h⟩:=bind_is h;obtain ⟨_,h⟩:=takeS_len h;obtain ⟨_,h⟩:=takeS_len h;obtain ⟨y,w,_,h⟩:=bind_is h;injection h with h _;rw [← h];exact ⟨(by decide:(3:Int)≠6),(by decide:(3:Int)≠7)⟩
   · split at h
     · obtain ⟨_,h⟩:=takeK_len h;obtain ⟨_,h⟩:=takeS_len h;obtain ⟨y,w,_,h⟩:=bind_is h;injection h with h _;rw [← h];exact ⟨(by decide:(4:Int)≠6),(by decide:(4:Int)≠7)⟩
     · obtain ⟨_,h⟩:=takeS_len h;exact setP_kd h
theorem semi_kd {s x:St} {u v:List To} (h:semi s u = .ok x v):x=s:=by
 obtain ⟨_,h⟩:=takeS_len h;injection h with h _;exact h.symm
def tailP (n:Nat) (s:St) (v:List To):R St:=
 if s.kd=6 then (blkP n v).bind fun b w=>if isW wElse w=true then (blkP n w.tail).bind fun e z=> .ok ((s.setB b).setE e) z else .ok (s.setB b) w
 else if s.kd=7 then (blkP n v).bind fun b w=> .ok (s.setB b) w
 else .ok s v
theorem tail_plain {n:Nat} {r:R St} (h:∀ x v,r = .ok x v→x.kd≠6∧x.kd≠7):r.bind (tailP n)=r:=by
 cases r with
 | ok x v=>
  have:=h x v rfl;rw [R.bind_ok,tailP,if_neg this.1,if_neg this.2]
 | bad v=>rfl
 | out=>rfl
def staR (n:Nat) (u:List To):R St:=
 if isW wVar u=true then (varP (hd u).ln u.tail).bind semi
 else if isW wIf u=true then (exP u.tail).bind fun x v=>(blkP n v).bind fun b w=>if isW wElse w=true then (blkP n w.tail).bind fun e z=> .ok (.mk 6 (hd u).ln [] [] [] ty0 [x] b e) z else .ok (.mk 6 (hd u).ln [] [] [] ty0 [x] b []) w
 else if isW wFor u=true then (exP u.tail).bind fun x v=>(blkP n v).bind fun b w=> .ok (.mk 7 (hd u).ln [] [] [] ty0 [x] b []) w
 else if isW wPrint u=true then (sgR 4 [40] u.tail).bind fun _ v=>(exP v).bind fun x w=>(sgR 4 [41] w).bind fun _ z=>semi (stm 8 (hd u).ln [] [] [] ty0 [x]) z
 else if isW wReturn u=true then (if isS [59] u.tail=true then semi (stm 10 (hd u).ln [] [] [] ty0 []) u.tail else (exP u.tail).bind fun x v=>semi (stm 10 (hd u).ln [] [] [] ty0 [x]) v)
 else (nmdP (hd u).ln u).bind semi
theorem sta_eq (n:Nat) (u:List To):staP (n+1) u=staR n u:=by
 have e:staP (n+1) u=(hdP u).bind (tailP n):=by rw [staP];rfl
 rw [e];unfold hdP staR;by_cases h1:isW wIf u=true
 · rw [if_pos h1,if_neg (isW_no h1 (by decide)),if_pos h1,R.bind_assoc];(refine bind_cong fun x v _=>?_);rfl
 · rw [if_neg h1];by_cases h2:isW wFor u=true
   · rw [if_pos h2,if_neg (isW_no h2 (by decide)),if_neg h1,if_pos h2,R.bind_assoc];(refine bind_cong fun x v _=>?_);rfl
   · rw [if_neg h2];by_cases h3:isW wVar u=true
     · rw [if_pos h3,if_pos h3];(refine tail_plain fun x v h=>?_);obtain ⟨y,w,e,h⟩:=bind_is h;rw [semi_kd h,varP_kd e];decide
     · rw [if_neg h3,if_neg h3,if_neg h1,if_neg h2];by_cases h4:isW wPrint u=true
       · rw [if_pos h4,if_pos h4,tail_plain fun x v h=>?_]
         · simp only [sgS_bind]
         · obtain ⟨_,h⟩:=takeS_len h;obtain ⟨y,w,_,h⟩:=bind_is h;obtain ⟨_,h⟩:=takeS_len h;rw [semi_kd h];exact ⟨(by decide:(8:Int)≠6),(by decide:(8:Int)≠7)⟩
       · rw [if_neg h4,if_neg h4];by_cases h5:isW wReturn u=true
         · rw [if_pos h5];(refine tail_plain fun x v h=>?_);split at h
           · rw [semi_kd h];exact ⟨(by decide:(10:Int)≠6),(by decide:(10:Int)≠7)⟩
           · obtain ⟨y,w,_,h⟩:=bind_is h;rw [semi_kd h];exact ⟨(by decide:(10:Int)≠6),(by decide:(10:Int)≠7)⟩
         · rw [if_neg h5];(refine tail_plain fun x v h=>?_);obtain ⟨y,w,e,h⟩:=bind_is h;rw [semi_kd h];exact nmdP_kd e
section
variable {w W Z:World} {gp:Nat} {A:Option Addr} {c n:Nat} {l u u':List To} {fl f':Bool} {b z:Nat} {s:XS} {v v9:Value} {xs:List XS} {x:XS}
end
end Go.Proofs.Ytflhcdcifilfcaa

namespace Go.Proofs.Ytflhcdcifilfcaa
open Go Go.RowKit

section
variable {w W:World} {gp:Nat} {A:Option Addr} {c n:Nat} {l u u':List To} {fl f':Bool}
end
end Go.Proofs.Ytflhcdcifilfcaa

namespace Go.Proofs.Ytflhcdcifilfcaa
open Go Go.RowKit

section
variable {w:World} {gp:Nat} {A:Option Addr} {c N:Nat} {l u:List To} {fl:Bool}
end
end Go.Proofs.Ytflhcdcifilfcaa
