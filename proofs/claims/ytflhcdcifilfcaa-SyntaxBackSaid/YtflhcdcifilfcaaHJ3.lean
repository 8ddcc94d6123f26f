/-
  Merged for a claim: O1S, TKC, SYF, KF, KG, SYG, KH.
-/
import Derived.Test.YtflhcdcifilfcaaHJ0
import Derived.Test.YtflhcdcifilfcaaProg
import Derived.Laws.BytesString
import Derived.Laws.Cells
import Derived.Laws.Concat
import Derived.Test.YtflhcdcifilfcaaHJ2
import Derived.Laws.EntriesVeiled
import Derived.Lib.Hide
import Derived.Test.YtflhcdcifilfcaaHJ1
import Derived.WalkLawsBesides
import Derived.WalkSpells
import Derived.RegionTactic
import Derived.Deep.QuietTactic
import Derived.BigQuiet
import Derived.RangeFuncNested
import Derived.RangeFuncLeaves
import Derived.RangeFuncBound
import Derived.Below
import Derived.WalkKit
import Derived.OrdersIn
import Derived.Deep.RegionHeld
namespace Go.Proofs.Ytflhcdcifilfcaa
open Go.RowKit

def str (l:List UInt8):ByteArray:=⟨l.toArray⟩

theorem fold_push:∀ (l:List UInt8) (s:ByteArray),(l.map fun x=>(x.toNat:Int)).foldl (fun r n=>r.push (UInt8.ofNat n.toNat)) s=⟨(s.data.toList++l).toArray⟩:=by
 intro l;induction l with
 | nil=>intro s;simp
 | cons x l ih=>
  intro s;simp only [List.map_cons,List.foldl_cons];rw [ih];simp [ByteArray.push]

theorem conv_some (w:World) (a:Addr) (l:List UInt8) (c:Nat) (h:∀ j (hj:j < l.length),w.cell? (a.add j)=some (.int .u8 (l[j].toNat:Int))) :
 (convert 34 9 (.slice (some a) l.length c)).run Try.prog w = .ok (.string (str l)) w:=by
 rw [run_convert_bytes_string w 34 9 5 _ _ _ Try.underlying34 Try.underlying5 Try.underlying9]
 have hl:=run_loadCells_list (P:=Try.prog) w a ((l.map fun x=>(x.toNat:Int)).map (Value.int .u8)) (by
  intro j v hv;have hj:j < l.length:=by
   have:=(List.getElem?_eq_some_iff.1 hv).1;simpa using this
  have:=h j hj;simp [hj] at hv
  rw [this,hv])
 simp only [List.length_map] at hl;rw [run_bytesToString w a l.length c _ hl,fold_push];simp [str]

theorem conv_any (w:World) (A:Option Addr) (l:List UInt8) (c:Nat) (h:∀ j (hj:j < l.length),∃ a,A=some a∧w.cell? (a.add j)=some (.int .u8 (l[j].toNat:Int))) :
 (convert 34 9 (.slice A l.length c)).run Try.prog w = .ok (.string (str l)) w:=by
 rcases A with _ | a
 · have hl:l=[]:=by
    rcases l with _ | ⟨x,l⟩
    · rfl
    · obtain ⟨a,h,_⟩:=h 0 (by simp);cases h
   subst hl;rw [run_convert_bytes_string w 34 9 5 _ _ _ Try.underlying34 Try.underlying5 Try.underlying9];rfl
 · (refine conv_some w a l c fun j hj=>?_);obtain ⟨a',e,hc⟩:=h j hj;cases e;exact hc

theorem str_append (x y:List UInt8):str x++str y=str (x++y):=ByteArray.mk_append_mk x y

end Go.Proofs.Ytflhcdcifilfcaa

namespace Go.Proofs.Ytflhcdcifilfcaa
open Go Go.RowKit

theorem str_sz (l:List UInt8):(str l).size=l.length:=by simp [str,ByteArray.size]
theorem str_getI (l:List UInt8) (k:Nat) (_h:k < l.length) (h2:((k:Int)).toNat < (str l).size):(str l)[((k:Int)).toNat]'h2=l[k]:=by
 simp [str,ByteArray.getElem_eq_getElem_data];rfl
theorem str_toList (l:List UInt8):(str l).toList=l:=ByteArray.toList_mk l
theorem run_idx_str (w:World) (l:List UInt8) (k:Nat) (h:k < l.length):(Instr.index 9 (.string (str l)) (.int .i64 k)).run Try.prog w = .ok (.int .u8 (l[k].toNat:Int)) w:=by
 rw [run_index_string _ _ _ _ _ Try.underlying9,dif_pos ⟨by omega,by rw [str_sz];omega⟩,str_getI l k h];rfl
set_option maxRecDepth 100000 in
set_option maxHeartbeats 1000000 in
theorem refLetter_i (x:Int) (w:World) :
 Calls Try.prog 43 #[.int .u8 x] w fun e w'=>e = .returned (.bool (leI x))∧w=w':=by
 by_cases h0:x=95
 · subst h0;go_enter Try.func43,Try.ntmps43;(go_wp2);go_ret;exact ⟨rfl,rfl⟩
 have q0:(x == 95)=false:=by simpa using h0
 by_cases r0:97≤x<;>by_cases r1:x≤122<;>by_cases r2:65≤x<;>by_cases r3:x≤90;all_goals first
  | (exfalso;omega)
  | (have hb:leI x=true:=decide_eq_true (by omega)
     rw [hb];clear hb;go_enter Try.func43,Try.ntmps43;(go_wp2);go_ret
     exact ⟨rfl,rfl⟩)
  | (have hb:leI x=false:=decide_eq_false (by omega)
     rw [hb];clear hb;go_enter Try.func43,Try.ntmps43;(go_wp2);go_ret
     exact ⟨rfl,rfl⟩)
set_option maxRecDepth 100000 in
set_option maxHeartbeats 1000000 in
theorem refDigit_i (x:Int) (w:World) :
 Calls Try.prog 44 #[.int .u8 x] w fun e w'=>e = .returned (.bool (diI x))∧w=w':=by
 by_cases r0:48≤x<;>by_cases r1:x≤57;all_goals first
  | (exfalso;omega)
  | (have hb:diI x=true:=decide_eq_true (by omega)
     rw [hb];clear hb;go_enter Try.func44,Try.ntmps44;(go_wp2);go_ret
     exact ⟨rfl,rfl⟩)
  | (have hb:diI x=false:=decide_eq_false (by omega)
     rw [hb];clear hb;go_enter Try.func44,Try.ntmps44;(go_wp2);go_ret
     exact ⟨rfl,rfl⟩)
end Go.Proofs.Ytflhcdcifilfcaa

namespace Go.Proofs.Ytflhcdcifilfcaa
open Go Go.RowKit

def tS (t:To):List Value:=[.int .u8 t.kd,.string (str t.tx),.int .i64 t.nu,.int .i64 t.ln]
def tV (t:To):Value:= .agg (tS t).toArray
def eTo:El To:=⟨77,4,tS,fun _=>rfl,fun x u hu=>by simp [tS] at hu;rcases hu with rfl | rfl | rfl | rfl<;>rfl,by omega⟩
def misC:List PanicEntry:=[{ v:= .iface 59 (.agg #[]),recovered:=false }]
theorem below_lnew (w:World) (o:Obj):Below w.heap.size w (w.alloc o):=(Below.refl _ w).alloc (Nat.le_refl _) o
theorem grown_set (w:World) (gr j:Nat) (u:Value):w.grownBy (w.setCell ⟨gr,j,none⟩ u) (some gr):=⟨rfl,rfl,rfl,by simp [World.setCell],fun k _ hk=>Below.heap_setCell w _ u k (fun e=>hk (by rw [e]))⟩
theorem grown_trans {w w1 w2:World} {r:Option Nat} (h:w.grownBy w1 r) (h2:w1.grownBy w2 r):w.grownBy w2 r:=⟨h2.os.trans h.os,h2.tape.trans h.tape,h2.output.trans h.output,Nat.le_trans h.size h2.size,fun k hk hne=>(h2.block k (Nat.lt_of_lt_of_le hk h.size) hne).trans (h.block k hk hne)⟩
theorem grown_below {w w1:World} (h:Below w.heap.size w w1) (r:Option Nat):w.grownBy w1 r:=⟨h.os,h.tape,h.output,h.size,fun k hk _=>h.block k hk⟩
structure Ps (w:World) (gp:Nat) (A:Option Addr) (c:Nat) (l u:List To):Prop where
 k:∃ k:Nat,k≤l.length∧u=l.drop k∧CAt w gp 57 [.slice A l.length c,.int .i64 k]
 t:eTo.Lies w gp A l
 n:l.length≤1000000
section
variable {w w':World} {gp:Nat} {A:Option Addr} {c:Nat} {l u:List To} {B:Nat}
theorem Ps.lt (h:Ps w gp A c l u):gp < w.heap.size:=by
 obtain ⟨k,_,_,hc⟩:=h.k;exact hc.lt
theorem Ps.below (h:Ps w gp A c l u) (hb:Below B w w') (hg:gp < B):Ps w' gp A c l u:=by
 obtain ⟨k,h1,h2,hc⟩:=h.k;exact ⟨⟨k,h1,h2,hc.below hb hg⟩,h.t.below (hb.mono (Nat.le_of_lt hg)),h.n⟩
theorem Ps.next (h:Ps w gp A c l u) (hb:Below w.heap.size w w'):Ps w' gp A c l u:=h.below hb h.lt
end
def setT (W:World) (g:Nat) (t:To):World:=(((W.setCell ⟨g,0,none⟩ (.int .u8 t.kd)).setCell ⟨g,1,none⟩ (.string (str t.tx))).setCell ⟨g,2,none⟩ (.int .i64 t.nu)).setCell ⟨g,3,none⟩ (.int .i64 t.ln)
theorem setT_at {W:World} {g:Nat} {z0 z1 z2 z3:Value} (t:To) (h:CAt W g 77 [z0,z1,z2,z3]):CAt (setT W g t) g 77 (tS t):=(((h.set 0 _).set 1 _).set 2 _).set 3 _
theorem setT_below {W:World} {B g:Nat} (t:To) (h:B≤g):Below B W (setT W g t):=
 ((((Below.refl B W).setCell (p:=⟨g,0,none⟩) h _).setCell (p:=⟨g,1,none⟩) h _).setCell (p:=⟨g,2,none⟩) h _).setCell (p:=⟨g,3,none⟩) h _
theorem tok_size:(Try.prog.info? 77).map (·.size)=some 4:=by kernel_rfl
theorem tok_back {fn:Func} {p:Tmp} (h:fn.results=#[.cell p 77]) {tmps:Array Value} {w:World} {g:Nat} (hp:tmps.getD p undef = .pointer (some ⟨g,0,none⟩))
 {t:To} (hg:CAt w g 77 (tS t)):(results fn tmps).run Try.prog w = .ok (tV t) w:=
 results_cell_row h tmps w g _ _ _ _ hp hg Try.underlying77 rfl tok_size
def zT:Obj:= .cells #[.int .u8 0,.string ⟨#[]⟩,.int .i64 0,.int .i64 0] 77
theorem tok_new (w:World) (n:Nat):CAt ((w.alloc zT).drewN n) w.heap.size 77 [.int .u8 0,.string ⟨#[]⟩,.int .i64 0,.int .i64 0]:=heap_alloc_new w zT
theorem tok_newB (w:World) (n:Nat):Below w.heap.size w ((w.alloc zT).drewN n):=((Below.refl _ w).alloc (Nat.le_refl _) zT).trans (below_draws n)
def to0:To:=⟨0,[],0,0⟩
theorem tok_z:(tV (hd [])) = .agg #[.int .u8 0,.string ⟨#[]⟩,.int .i64 0,.int .i64 0]:=rfl
section
variable {w:World} {gp:Nat} {A:Option Addr} {c:Nat} {l u:List To}
set_option maxRecDepth 100000 in
theorem look_any (h:Ps w gp A c l u) (a:Nat) (ha:a≤9) :
 Calls Try.prog 55 #[.pointer (some ⟨gp,0,none⟩),.int .i64 a] w (fun e w'=>e = .returned (tV (hd (u.drop a)))∧Below w.heap.size w w'):=by
 obtain ⟨k,hk,rfl,hc⟩:=h.k;have p0:=hc.cell (j:=0) (by simp);have p1:=hc.cell (j:=1) (by simp);simp only [List.getElem_cons_zero,List.getElem_cons_succ] at p0 p1;have hn:=h.n;have hlt:=h.lt;rw [List.drop_drop];by_cases hin:k+a < l.length
 · obtain ⟨g,o,rfl,hg,hcell⟩:=h.t.at_ hin;(have e:hd (l.drop (k+a))=l[k+a]:=by rw [List.drop_eq_getElem_cons hin];rfl);rw [e];generalize l[k+a]=t at *;have d0:=hcell 0 _ rfl;have d1:=hcell 1 _ rfl;have d2:=hcell 2 _ rfl;have d3:=hcell 3 _ rfl;simp only [Nat.add_zero,show eTo.sz=4 from rfl] at d0 d1 d2 d3;(have hgw:g < w.heap.size:=by omega);clear hcell e hc h;unfold tV tS;go_enter Try.func55,Try.ntmps55;go_wp2_with fail
   go_quiet (fail)
   (go_wp2_with fail);(go_region);(go_wp2_with fail);exact bodyPost_ret (tok_back (t:=t) rfl rfl (setT_at t (tok_new w _))) rfl ⟨rfl,(tok_newB w _).trans (setT_below t (Nat.le_refl _))⟩
 · have e:l.drop (k+a)=[]:=List.drop_eq_nil_of_le (by omega);rw [e,tok_z];clear e hc h;go_enter Try.func55,Try.ntmps55;go_wp2_with fail
   go_quiet (fail)
   (go_wp2_with fail);exact bodyPost_ret (tok_back (t:=to0) rfl rfl (setT_at to0 (tok_new w _))) rfl ⟨rfl,(tok_newB w _).trans (setT_below to0 (Nat.le_refl _))⟩
theorem str_dec (a b:List UInt8):((str a).toList == (str b).toList)=decide (a=b):=by
 rw [str_toList,str_toList];by_cases h:a=b
 · subst h;simp
 · rw [decide_eq_false h];exact beq_eq_false_iff_ne.2 h
theorem same_any (a b:To) (w:World):Calls Try.prog 54 #[tV a,tV b] w (fun e w'=>e = .returned (.bool (decide (a.kd=b.kd) && decide (a.tx=b.tx)))∧Below w.heap.size w w'):=by
 have h2:=str_dec a.tx b.tx;obtain ⟨k1,t1,n1,l1⟩:=a;obtain ⟨k2,t2,n2,l2⟩:=b;unfold tV tS;dsimp only at h2 ⊢;by_cases hk:k1=k2
 · subst hk;rw [decide_eq_true rfl,Bool.true_and];generalize decide (t1=t2)=r at *;go_enter Try.func54,Try.ntmps54;(go_wp2_with fail);go_ret;exact ⟨rfl,(below_lnew w _).trans ((below_lnew _ _).mono (by simp))⟩
 · rw [decide_eq_false hk,Bool.false_and];go_enter Try.func54,Try.ntmps54;(go_wp2_with fail);go_ret;exact ⟨rfl,(below_lnew w _).trans ((below_lnew _ _).mono (by simp))⟩
end
end Go.Proofs.Ytflhcdcifilfcaa

namespace Go.Proofs.Ytflhcdcifilfcaa
open Go Go.RowKit

structure Same (K:Nat→Prop) (A C:World):Prop where
 os:C.os=A.os
 tape:C.tape=A.tape
 output:C.output=A.output
 size:A.heap.size≤C.heap.size
 blk:∀ k o,A.heap[k]? = some o→K k→C.heap[k]? = some o
section
variable {E K:Nat→Prop} {B B':Nat} {A C D:World}
end

end Go.Proofs.Ytflhcdcifilfcaa

namespace Go.Proofs.Ytflhcdcifilfcaa
open Go

theorem heldTake {P:Program} {ops:Array Oper} {Q:Exit→Act→World→Prop} {md:Region.Mode} {S:World→Prop} {i:Nat} {oi:Oper} {d:Option Tmp} {v:Value} {fuel:Nat} {listed:Array Bool} {a:Act} {w:World} (hi:ops[i]? = some oi) (hd:oi.dst=d)
 (hs:Region.noSelect ops=true) (hf:Region.free md ops listed i=true) (hr:(Region.ready md ops listed).contains i=true)
 (hQ:∀ c a w,Q (.panic c) (a.put d v) w→Q (.panic c) a w) (hw:Region.wanted oi (yielded ops a.tmps)=true) (hy:∀ w,S w→(execOp a.eval oi).run P w = .ok (.value v) w) (hS:S w)
 (h:wpAnyH P md ops Q S fuel (listed.setIfInBounds i true) (a.put d v) w):wpAnyH P md ops Q S (fuel+1) listed a w:=by
 subst hd;exact wpAnyH_take hi hs hf hr hQ (.inl ⟨hw,hy⟩) hS h
theorem nA {α:Type} (l:List α) (i:Nat) (a:α):l.toArray.setIfInBounds i a=(l.set i a).toArray:=by simp
theorem nB {α:Type} (a b:α) (l:List α):(a::l).set 0 b=b::l:=rfl
theorem nC {α:Type} (a b:α) (l:List α) (i:Nat):(a::l).set (i+1) b=a::l.set i b:=rfl
theorem nD {α:Type} (a:α) (l:List α) (h:0<(a::l).length):(a::l)[0]'h=a:=rfl
theorem nE {α:Type} (a:α) (l:List α) (i:Nat) (h:i+1<(a::l).length):(a::l)[i+1]'h=l[i]'(Nat.lt_of_succ_lt_succ h):=rfl
theorem nF {α:Type} {a:α} {l:List α}:(a::l).length=l.length+1:=rfl
theorem nG {α:Type}:([]:List α).length=0:=rfl
theorem nH {α:Type} {a b:List α}:(a++b).length=a.length+b.length:=List.length_append
theorem nI {α:Type} {a:α} {b c:List α}:(a::b)++c=a::(b++c):=rfl
theorem nJ {α:Type} (a:List α):[]++a=a:=rfl
theorem h_ {p:Prop} (h:p):RowKit.Hid p:=h
theorem nM {P:Program} {ops:Array Oper} {Q:Exit→Act→World→Prop} {md:Region.Mode} {S:World→Prop} {fuel:Nat} {listed:Array Bool} {a:Act} {w:World} {i:Nat} {o:Oper} (hr:Region.ready md ops listed=[i]) (ho:ops[i]? = some o)
 (h:∀ K':Act→World→Prop,Shut (∀ a w,S w→(S w→wpAnyH P md ops Q S fuel (listed.setIfInBounds i true) a w)→K' a w)→if Region.wanted o (yielded ops a.tmps)=true then Oper.wp P o a w K' Q else K' (a.put o.dst undef) w):wpAnyH P md ops Q S (fuel+1) listed a w:=
 wpAnyH_ready hr (List.cons_ne_nil _ _) (AllReadyH.cons ho h AllReadyH.nil)
theorem nP {P:Program} {ops:Array Oper} {Q:Exit→Act→World→Prop} {id:Nat} {a:Act} {w:World} (hm:P.follows .mixedOrders=true)
 (h:True→wpAnyH P .any ops Q (fun _=>True) ops.size (Array.replicate ops.size false) a w.drew):(Code.region id ops true).wp P Q a w:=
 wp_region_held_drew (S:=fun _=>True) hm trivial h
theorem nK {α:Type} {a b:List α}:List.append a b=a++b:=rfl
end Go.Proofs.Ytflhcdcifilfcaa

namespace Go.Proofs.Ytflhcdcifilfcaa
open Go Go.RowKit

theorem tok_box (w:World) (t:To):CAt (w.alloc (.cells #[.int .u8 t.kd,.string (str t.tx),.int .i64 t.nu,.int .i64 t.ln] 77)) w.heap.size 77 (tS t):=heap_alloc_new w _
theorem sign_any (s:List UInt8) (w:World):Calls Try.prog 58 #[.string (str s)] w (fun e w'=>e = .returned (tV ⟨4,s,0,0⟩)∧Below w.heap.size w w'):=by
 go_enter Try.func58,Try.ntmps58;go_wp2_with fail
 exact bodyPost_ret (tok_back (t:=⟨4,s,0,0⟩) rfl rfl (tok_box w ⟨4,s,0,0⟩)) rfl ⟨rfl,below_lnew w _⟩
theorem word_any (s:List UInt8) (w:World):Calls Try.prog 35 #[.string (str s)] w (fun e w'=>e = .returned (tV ⟨3,s,0,0⟩)∧Below w.heap.size w w'):=by
 go_enter Try.func35,Try.ntmps35;go_wp2_with fail
 exact bodyPost_ret (tok_back (t:=⟨3,s,0,0⟩) rfl rfl (tok_box w ⟨3,s,0,0⟩)) rfl ⟨rfl,below_lnew w _⟩
theorem isT_hd {kd:Int} {tx:List UInt8} {u:List To} (hk:kd≠0):(decide ((hd u).kd=kd) && decide ((hd u).tx=tx))=isT kd tx u:=by
 cases u with
 | nil=>rw [show (hd []).kd=0 from rfl,decide_eq_false (fun e=>hk e.symm)];rfl
 | cons t v=>rfl
theorem isK_hd {kd:Int} {u:List To} (hk:kd≠0):decide ((hd u).kd=kd)=isK kd u:=by
 cases u with
 | nil=>rw [show (hd []).kd=0 from rfl,decide_eq_false (fun e=>hk e.symm)];rfl
 | cons t v=>rfl
theorem hd_tail {u:List To}:hd (u.drop 1)=hd u.tail:=by rw [List.drop_one]
def TC (W:World) (g:Nat) (kd:Int) (tx:List UInt8) (nu ln:Int):Prop:=
 W.cell? ⟨g,0,none⟩=some (.int .u8 kd)∧W.cell? ⟨g,1,none⟩=some (.string (str tx))∧W.cell? ⟨g,2,none⟩=some (.int .i64 nu)∧W.cell? ⟨g,3,none⟩=some (.int .i64 ln)
theorem CAt.tc {W:World} {g:Nat} {t:To} (h:CAt W g 77 (tS t)):TC W g t.kd t.tx t.nu t.ln:=
 ⟨h.cell (j:=0) (by simp [tS]),h.cell (j:=1) (by simp [tS]),h.cell (j:=2) (by simp [tS]),h.cell (j:=3) (by simp [tS])⟩
section
variable {w:World} {gp:Nat} {A:Option Addr} {c:Nat} {l u:List To}
set_option maxRecDepth 100000 in
theorem has_any (h:Ps w gp A c l u) (t:To) (ht:t.kd≠0) :
 Calls Try.prog 34 #[.pointer (some ⟨gp,0,none⟩),tV t] w (fun e w'=>e = .returned (.bool (isT t.kd t.tx u))∧Below w.heap.size w w'):=by
 have e0:=isT_hd (tx:=t.tx) (u:=u) ht;obtain ⟨kd,tx,nu,ln⟩:=t;dsimp only at ht e0;have hcb:=tok_box w ⟨kd,tx,nu,ln⟩;dsimp only at hcb;have hbb:=below_lnew w (.cells #[.int .u8 kd,.string (str tx),.int .i64 nu,.int .i64 ln] 77);obtain ⟨wa,hwa⟩:∃ wa,w.alloc (.cells #[.int .u8 kd,.string (str tx),.int .i64 nu,.int .i64 ln] 77)=wa:=⟨_,rfl⟩;rw [hwa] at hcb hbb;have HWA:=h_ hwa;have HB0:=h_ hbb.drew;have HC0:=h_ (show CAt wa.drew w.heap.size 77 (tS ⟨kd,tx,nu,ln⟩) from hcb);have HL:=h_ (look_any (h.next HB0.out) 0 (by omega));have HS:=h_ (fun w1=>same_any (hd u) ⟨kd,tx,nu,ln⟩ w1);have hS:=hcb.tc;dsimp only at hS;rw [← e0];clear e0 h hcb hbb hwa;unfold tV tS at HS ⊢;dsimp only at HS ⊢;go_enter Try.func34,Try.ntmps34;go_wp2_with fail
 rw [HWA.out];refine wp_region_held_drew (S:=fun W9=>(W9.cell? ⟨w.heap.size,0,none⟩=some (.int .u8 kd)∧W9.cell? ⟨w.heap.size,1,none⟩=some (.string (str tx))∧W9.cell? ⟨w.heap.size,2,none⟩=some (.int .i64 nu)∧W9.cell? ⟨w.heap.size,3,none⟩=some (.int .i64 ln))) (by kernel_rfl) (hS) (fun hH=>?_);refine heldTake (i:=0) (d:=some 5) (v:=?_) rfl rfl (by kernel_rfl) (by kernel_rfl) (by kernel_rfl) (fun _ _ _ h=>h) (by kernel_rfl) ?hyq_1 (by assumption) ?restq_1;case hyq_1=>(intro W9 hSw;(try dsimp only at hSw);go_simp;try (with_reducible rfl))
 (try simp only [Act.put,nA,nB,nC]);refine heldTake (i:=2) (d:=some 7) (v:=?_) rfl rfl (by kernel_rfl) (by kernel_rfl) (by kernel_rfl) (fun _ _ _ h=>h) (by kernel_rfl) ?hyq_2 (by assumption) ?restq_2;case hyq_2=>(intro W9 hSw;(try dsimp only at hSw);go_simp;try (with_reducible rfl))
 (try simp only [Act.put,nA,nB,nC]);refine nM (i:=1) (by kernel_rfl) rfl fun K hK=>?_;go_simp;go_at_call 55
 refine HL.out.mono ?_;rintro e9 X ⟨rfl,hbX⟩;have HB1:=h_ hbX;have HC1:=h_ (HC0.out.below hbX HC0.out.lt);have hSX:=HC1.out.tc;dsimp only at hSX;rw [List.drop_zero];go_wp2_with fail
 refine hK.out _ _ hSX (fun hH=>?_);clear hK K;(try simp only [Act.put,nA,nB,nC]);refine nM (i:=3) (by kernel_rfl) rfl fun K hK=>?_;go_simp;go_at_call 54
 refine (HS.out X).mono ?_;rintro e9 Y ⟨rfl,hbY⟩;have HB2:=h_ hbY;have hSY:=(HC1.out.below hbY HC1.out.lt).tc;dsimp only at hSY;go_wp2_with fail
 refine hK.out _ _ hSY (fun hH=>?_);clear hK K;(try simp only [Act.put,nA,nB,nC]);refine heldTake (i:=4) (d:=some 4) (v:=?_) rfl rfl (by kernel_rfl) (by kernel_rfl) (by kernel_rfl) (fun _ _ _ h=>h) (by kernel_rfl) ?hyq_3 (by assumption) ?restq_3;case hyq_3=>(intro W9 hSw;(try dsimp only at hSw);go_simp;try (with_reducible rfl))
 (try simp only [Act.put,nA,nB,nC]);refine wpAnyH_done (by kernel_rfl) ?_ _;go_wp2_with fail
 go_ret;exact ⟨rfl,(HB0.out.trans (HB1.out.mono HB0.out.size)).trans (HB2.out.mono (Nat.le_trans HB0.out.size HB1.out.size))⟩
end
end Go.Proofs.Ytflhcdcifilfcaa

namespace Go.Proofs.Ytflhcdcifilfcaa
open Go Go.RowKit

theorem heldSkip {P:Program} {ops:Array Oper} {Q:Exit→Act→World→Prop} {md:Region.Mode} {S:World→Prop} {i:Nat} {oi:Oper} {d:Option Tmp} {fuel:Nat} {listed:Array Bool} {a:Act} {w:World} (hi:ops[i]? = some oi) (hd:oi.dst=d)
 (hs:Region.noSelect ops=true) (hf:Region.free md ops listed i=true) (hr:(Region.ready md ops listed).contains i=true)
 (hQ:∀ c a w,Q (.panic c) (a.put d undef) w→Q (.panic c) a w) (hw:Region.wanted oi (yielded ops a.tmps)=false) (hS:S w)
 (h:wpAnyH P md ops Q S fuel (listed.setIfInBounds i true) (a.put d undef) w):wpAnyH P md ops Q S (fuel+1) listed a w:=by
 subst hd;exact wpAnyH_take hi hs hf hr hQ (.inr ⟨hw,rfl⟩) hS h
end Go.Proofs.Ytflhcdcifilfcaa
