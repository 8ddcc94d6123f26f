/-
  Merged for a claim: SYW, SYX, SYY.
-/
import Derived.Test.YtflhcdcifilfcaaHSYV
namespace Go.Proofs.Ytflhcdcifilfcaa
open Go Go.RowKit

theorem tok_info:(Try.prog.info? 77).map (fun i=>(i.zero,i.size,i.bytes))=some (some (.agg #[.int .u8 0,.string ⟨#[]⟩,.int .i64 0,.int .i64 0]),4,40):=by kernel_rfl
theorem stp_len (kd:Int) (tx:List UInt8) (u:List To):(stp kd tx u).length≤u.length:=by
 unfold stp;split
 · rw [List.length_tail];omega
 · exact Nat.le_refl _
theorem tail_le (u:List To):u.tail.length≤u.length:=by rw [List.length_tail];omega
theorem stp_no {kd:Int} {tx:List UInt8} {u:List To} (h:isT kd tx u=false):stp kd tx u=u:=by unfold stp;rw [h];rfl
theorem stp_yes {kd:Int} {tx:List UInt8} {u:List To} (h:isT kd tx u=true):stp kd tx u=u.tail:=by unfold stp;rw [h];rfl
theorem one_kd (kd:Int) (hk:kd≠0) (s:List UInt8):∀ x∈[(⟨kd,s,0,0⟩:To)],x.kd≠0:=by
 intro x hx;rw [List.mem_singleton.1 hx];exact hk
theorem nd1_yes {s:List UInt8} {u:List To} (h:isT 4 s u=true):ndP [⟨4,s,0,0⟩] u = .ok () u.tail:=by
 rw [ndP,if_pos h];rfl
theorem nd1_no {s:List UInt8} {u:List To} (h:isT 4 s u=false):ndP [⟨4,s,0,0⟩] u = .bad u:=by
 rw [ndP,if_neg (by rw [h];decide)]
theorem takeS_yes {α:Type} {tx:List UInt8} {u:List To} {f:List To→R α} (h:isT 4 tx u=true):takeS tx u f=f u.tail:=if_pos h
theorem takeS_no {α:Type} {tx:List UInt8} {u:List To} {f:List To→R α} (h:isT 4 tx u=false):takeS tx u f = .bad u:=if_neg (by show ¬ isT 4 tx u=true;rw [h];decide)
theorem takeK_yes {α:Type} {kd:Int} {u:List To} {f:To→List To→R α} (h:isK kd u=true):takeK kd u f=f (hd u) u.tail:=if_pos h
theorem takeK_no {α:Type} {kd:Int} {u:List To} {f:To→List To→R α} (h:isK kd u=false):takeK kd u f = .bad u:=if_neg (by rw [h];decide)
abbrev PS:=SF×List Ex
def toSt (x:PS):St:=stm x.1.kd x.1.ln x.1.nm x.1.fl x.1.cl x.1.ty x.2
def bdS (r:R PS):R St:=r.bind fun x v=> .ok (toSt x) v
theorem valP_ok {s:SF} {es:List Ex} {u v:List To} {x:Ex} (h:exP u = .ok x v):valP s es u = .ok (s,es++[x]) v:=by unfold valP;rw [h];rfl
theorem valP_bad {s:SF} {es:List Ex} {u v:List To} (h:exP u = .bad v):valP s es u = .bad v:=by unfold valP;rw [h];rfl
def varS (s:SF) (es:List Ex) (u:List To):R PS:=
 takeK 1 u fun t v=>(tyP v).bind fun ty w=>if isS [61] w=true then valP ⟨1,s.ln,t.tx,s.fl,s.cl,ty⟩ es w.tail else .ok (⟨1,s.ln,t.tx,s.fl,s.cl,ty⟩,es) w
section
variable {w wf W Z:World} {gp gs:Nat} {A:Option Addr} {c:Nat} {l u u':List To} {s:SF} {vc v:Value} {rows xs:List XT}
theorem SmZ.cell (h:SmZ w wf gp gs A c l s vc rows xs v W u) (j:Nat) (z:Value) (s':SF) (hs:(s.cs vc).set j z=s'.cs vc):SmZ w wf gp gs A c l s' vc rows xs v (W.setCell ⟨gs,j,none⟩ z) u:=by
 have hn:=h.n;have hb:ButT 51 W (W.setCell ⟨gs,j,none⟩ z):=ButT.set (p:=⟨gs,j,none⟩) ⟨_,_,h.s⟩ z;have hB:Below w.heap.size W (W.setCell ⟨gs,j,none⟩ z):=(Below.refl _ _).setCell (p:=⟨gs,j,none⟩) hn.2.1 z;exact ⟨h.p.below hB hn.1,by rw [← hs];exact h.s.set j z,h.r.but hb (by decide),xsOk.keep (fun g _ ht=>hb g _ ht (by decide)) (fun _ q=>q) xs h.k,grown_new h.g hB,hn,h.f.but hb (.inr (.inl rfl))⟩
theorem SmZ.setKd (h:SmZ w wf gp gs A c l s vc rows xs v W u) (x:Int):SmZ w wf gp gs A c l ⟨x,s.ln,s.nm,s.fl,s.cl,s.ty⟩ vc rows xs v (W.setCell ⟨gs,0,none⟩ (.int .u8 x)) u:=h.cell 0 _ _ rfl
theorem SmZ.setNm (h:SmZ w wf gp gs A c l s vc rows xs v W u) (x:List UInt8):SmZ w wf gp gs A c l ⟨s.kd,s.ln,x,s.fl,s.cl,s.ty⟩ vc rows xs v (W.setCell ⟨gs,2,none⟩ (.string (str x))) u:=h.cell 2 _ _ rfl
theorem SmZ.setFl (h:SmZ w wf gp gs A c l s vc rows xs v W u) (x:List UInt8):SmZ w wf gp gs A c l ⟨s.kd,s.ln,s.nm,x,s.cl,s.ty⟩ vc rows xs v (W.setCell ⟨gs,3,none⟩ (.string (str x))) u:=h.cell 3 _ _ rfl
theorem SmZ.setCl (h:SmZ w wf gp gs A c l s vc rows xs v W u) (x:List UInt8):SmZ w wf gp gs A c l ⟨s.kd,s.ln,s.nm,s.fl,x,s.ty⟩ vc rows xs v (W.setCell ⟨gs,4,none⟩ (.string (str x))) u:=h.cell 4 _ _ rfl
theorem SmZ.setTy (h:SmZ w wf gp gs A c l s vc rows xs v W u) (t:Ty):SmZ w wf gp gs A c l ⟨s.kd,s.ln,s.nm,s.fl,s.cl,t⟩ vc rows xs v (((W.setCell ⟨gs,5,none⟩ (.int .u8 t.kd)).setCell ⟨gs,6,none⟩ (.int .i64 t.n)).setCell ⟨gs,7,none⟩ (.string (str t.nm))) u:=
 ((h.cell 5 (.int .u8 t.kd) ⟨s.kd,s.ln,s.nm,s.fl,s.cl,⟨t.kd,s.ty.n,s.ty.nm⟩⟩ rfl).cell 6 (.int .i64 t.n) ⟨s.kd,s.ln,s.nm,s.fl,s.cl,⟨t.kd,t.n,s.ty.nm⟩⟩ rfl).cell 7 (.string (str t.nm)) ⟨s.kd,s.ln,s.nm,s.fl,s.cl,t⟩ rfl
theorem SmZ.rebase (h:SmZ w wf gp gs A c l s vc rows xs v W u):SmZ w W gp gs A c l s vc rows xs v W u:=⟨h.p,h.s,h.r,h.k,h.g,h.n,.refl W⟩
theorem SmZ.front {wg:World} (h:SmZ w wf gp gs A c l s vc rows xs v W u) (hf:FrS wg wf):SmZ w wg gp gs A c l s vc rows xs v W u:=⟨h.p,h.s,h.r,h.k,h.g,h.n,hf.trans h.f⟩
theorem SmR.bad' {e:Ending} {r:R PS} {x:List To} (hr:r = .bad x) (he:e = .panicked misC) (hp:Ps W gp A c l x) (hg:w.grownBy W (some gp)):SmR w wf gp gs A c l r e W:=by
 subst hr;exact ⟨he,hp,hg⟩
theorem SmR.ok' {e:Ending} {r:R PS} {x:PS} {u:List To} {ks:List XT} {vk:Value} (hr:r = .ok x u) (he:e = .returned (.tuple #[])) (hx:xsd ks=x.2) (h:SmZ w wf gp gs A c l x.1 vk ks ks vk W u):SmR w wf gp gs A c l r e W:=by
 subst hr;exact ⟨he,ks,vk,hx,h_ h⟩
end
end Go.Proofs.Ytflhcdcifilfcaa

namespace Go.Proofs.Ytflhcdcifilfcaa
open Go Go.RowKit

section
variable {w wf w1:World} {gp gs:Nat} {A:Option Addr} {c:Nat} {l u:List To} {s:SF} {ks:List XT} {vk:Value}
set_option maxRecDepth 100000 in
set_option maxHeartbeats 8000000 in
theorem variable_any (h:SmW w wf gp gs A c l s ks vk w1 u):Calls Try.prog 85 #[.pointer (some ⟨gp,0,none⟩),.pointer (some ⟨gs,0,none⟩)] w1 (SmR w wf gp gs A c l (varS s (xsd ks) u)):=by
 have H0:=h_ (show SmZ w wf gp gs A c l s vk ks ks vk w1 u from h);obtain ⟨r,hr⟩:∃ r,varS s (xsd ks) u=r:=⟨_,rfl⟩;rw [hr];have HR:=h_ (show r=takeK 1 u fun t v=>(tyP v).bind fun ty w=>if isS [61] w=true then valP ⟨1,s.ln,t.tx,s.fl,s.cl,ty⟩ (xsd ks) w.tail else .ok (⟨1,s.ln,t.tx,s.fl,s.cl,ty⟩,xsd ks) w from hr.symm);clear h hr;have H1:=h_ (H0.out.setKd 1);have q0:=H0.out.s.cell (j:=0) (by simp [SF.cs]);have qf0:=H0.out.s.frozen 0;simp only [SF.cs,nD] at q0;go_enter Try.func85,Try.ntmps85;cases hk:isK 1 u
 · have HF:=h_ (HR.out.trans (takeK_no hk));have HN:=h_ (name_no H1.out.p hk);clear hk HR;(go_wp2_with fail);refine HN.out.mono ?_;rintro e w2 ⟨rfl,hp2,hg2⟩;have hg9:=grown_trans H1.out.g hg2;(go_wp2_with fail);exact ⟨rfl,SmR.bad' HF.out rfl hp2 hg9⟩
 · have HF:=h_ (HR.out.trans (takeK_yes hk));have HN:=h_ (name_yes H1.out.p hk);clear hk HR;(go_wp2_with fail);refine HN.out.mono ?_;rintro e w2 ⟨rfl,hp2,hg2⟩;generalize hd u=t at *;have hul:=tail_le u;have H2:=h_ (H1.out.step hp2 hg2 hul);generalize u.tail=v at *;have H3:=h_ (H2.out.setNm t.tx);clear q0 qf0;have q2:=H2.out.s.cell (j:=2) (by simp [SF.cs]);have qf2:=H2.out.s.frozen 2;simp only [SF.cs,nD,nE] at q2;clear hp2 hg2 H1 HN;have HT:=h_ (kind_any H3.out.p);(go_wp2_with fail);rcases hty:tyP v with ⟨ty,y⟩ | y | _
   · rw [hty] at HT;have HG:=h_ (HF.out.trans (by rw [hty];rfl:_=(if isS [61] y=true then valP ⟨1,s.ln,t.tx,s.fl,s.cl,ty⟩ (xsd ks) y.tail else .ok (⟨1,s.ln,t.tx,s.fl,s.cl,ty⟩,xsd ks) y)));have hyl:=tyP_len hty;refine HT.out.mono ?_;rintro e w3 ⟨rfl,hp3,hg3⟩;have H4:=h_ (H3.out.step hp3 hg3 (by omega));have H5:=h_ (H4.out.setTy ty);clear q2 qf2;have q5:=H4.out.s.cell (j:=5) (by simp [SF.cs]);have qf5:=H4.out.s.frozen 5;have q6:=H4.out.s.cell (j:=6) (by simp [SF.cs]);have qf6:=H4.out.s.frozen 6;have q7:=H4.out.s.cell (j:=7) (by simp [SF.cs]);have qf7:=H4.out.s.frozen 7;simp only [SF.cs,nD,nE] at q5 q6 q7;unfold tyV tyS;obtain ⟨tk,tn,tm⟩:=ty;clear hp3 hg3 hty HF HT H3 H2;(go_wp2_with fail);obtain ⟨W5,hW5⟩:∃ W5,((w3.setCell ⟨gs,5,none⟩ (.int .u8 tk)).setCell ⟨gs,6,none⟩ (.int .i64 tn)).setCell ⟨gs,7,none⟩ (.string (str tm))=W5:=⟨_,rfl⟩;(try dsimp only at H5);rw [hW5] at H5 ⊢;clear q5 qf5 q6 qf6 q7 qf7;clear hW5;refine nP (by kernel_rfl) fun hH=>?_;refine heldTake (i:=0) (d:=some 19) (v:=?_) rfl rfl (by kernel_rfl) (by kernel_rfl) (by kernel_rfl) (fun _ _ _ h=>h) (by kernel_rfl) ?hyq_1 (by assumption) ?restq_1;(case hyq_1=>(intro W9 hSw;(try dsimp only at hSw);go_simp;try (with_reducible rfl)));(try simp only [Act.put,nA,nB,nC]);refine heldTake (i:=1) (d:=some 20) (v:=?_) rfl rfl (by kernel_rfl) (by kernel_rfl) (by kernel_rfl) (fun _ _ _ h=>h) (by kernel_rfl) ?hyq_2 (by assumption) ?restq_2;(case hyq_2=>(intro W9 hSw;(try dsimp only at hSw);go_simp;try (with_reducible rfl)));(try simp only [Act.put,nA,nB,nC]);refine heldTake (i:=2) (d:=some 21) (v:=?_) rfl rfl (by kernel_rfl) (by kernel_rfl) (by kernel_rfl) (fun _ _ _ h=>h) (by kernel_rfl) ?hyq_3 (by assumption) ?restq_3;(case hyq_3=>(intro W9 hSw;(try dsimp only at hSw);go_simp;try (with_reducible rfl)));(try simp only [Act.put,nA,nB,nC]);refine nM (i:=3) (by kernel_rfl) rfl fun K hK=>?_;go_simp;(go_at_call 58);refine (sign_any [61] _).mono ?_;rintro e9 X ⟨rfl,hbX⟩;have H6x:=h_ (H5.out.drew.below hbX);clear hbX;(go_wp2_with fail);refine hK.out _ _ trivial (fun hH=>?_);clear hK K;(try simp only [Act.put,nA,nB,nC]);refine nM (i:=4) (by kernel_rfl) rfl fun K hK=>?_;go_simp;(go_at_call 59);refine (takeT_any H6x.out.p 4 [61] (by decide)).mono ?_;rintro e9 Y ⟨rfl,hpY,hgY⟩;have H6:=h_ (H6x.out.step hpY hgY (stp_len _ _ _));clear hpY hgY H6x;(go_wp2_with fail);refine hK.out _ _ trivial (fun hH=>?_);clear hK K;(try simp only [Act.put,nA,nB,nC]);refine wpAnyH_done (by kernel_rfl) ?_ _;cases hq:isT 4 [61] y
     · rw [stp_no hq] at H6;have HE:=h_ (HG.out.trans (if_neg (by show ¬ isT 4 [61] y=true;rw [hq];decide)));(go_wp2_with fail);refine bodyPost_end (results_none rfl _ _ _) rfl ?_;exact SmR.ok' HE.out rfl rfl H6.out
     · rw [stp_yes hq] at H6;have HE:=h_ (HG.out.trans (if_pos hq));have HV:=h_ (value_any H6.out);(go_wp2_with fail);rcases hx:exP y.tail with ⟨x,z⟩ | z | _
       · rw [valP_ok hx] at HE HV;refine HV.out.mono ?_;rintro e w6 ⟨rfl,ks2,vk2,hk2,hS⟩;have HS:=h_ hS.out;clear hS;(go_wp2_with fail);refine bodyPost_end (results_none rfl _ _ _) rfl ?_;exact SmR.ok' HE.out rfl hk2 HS.out
       · rw [valP_bad hx] at HE HV;refine HV.out.mono ?_;rintro e w6 ⟨rfl,hp6,hg6⟩;(go_wp2_with fail);exact ⟨rfl,SmR.bad' HE.out rfl hp6 hg6⟩
       · exact absurd hx (exP_ne _)
   · rw [hty] at HT;have HG:=h_ (HF.out.trans (by rw [hty];rfl:_ = .bad y));refine HT.out.mono ?_;rintro e w3 ⟨rfl,hp3,hg3⟩;have hg9:=grown_trans H3.out.g hg3;(go_wp2_with fail);exact ⟨rfl,SmR.bad' HG.out rfl hp3 hg9⟩
   · exact absurd hty (tyP_out _)
end
end Go.Proofs.Ytflhcdcifilfcaa

namespace Go.Proofs.Ytflhcdcifilfcaa
open Go Go.RowKit

structure PsW (w:World) (gp:Nat) (A:Option Addr) (c:Nat) (l:List To) (W:World) (u:List To):Prop where
 p:Ps W gp A c l u
 g:w.grownBy W (some gp)
section
variable {w W W':World} {gp:Nat} {A:Option Addr} {c:Nat} {l u u':List To}
theorem PsW.new (h:Ps w gp A c l u):PsW w gp A c l w u:=⟨h,World.grownBy.refl _ _⟩
theorem PsW.below (h:PsW w gp A c l W u) (hb:Below W.heap.size W W'):PsW w gp A c l W' u:=⟨h.p.next hb,grown_trans h.g (grown_below hb _)⟩
theorem PsW.drew (h:PsW w gp A c l W u):PsW w gp A c l W.drew u:=h.below ((Below.refl _ W).drew)
theorem PsW.step (h:PsW w gp A c l W u) (hp:Ps W' gp A c l u') (hg:W.grownBy W' (some gp)) (_hu:u'.length≤u.length):PsW w gp A c l W' u':=⟨hp,grown_trans h.g hg⟩
end
section
variable {σ:Type}
def comS (one:σ→List To→R σ):Nat→σ→List To→R σ
 | 0,_,_=> .out
 | n+1,x,u=>(one x u).bind fun y v=>if isS [44] v=true then comS one n y v.tail else takeS [41] v fun w=> .ok y w
def lisS (one:σ→List To→R σ) (x:σ) (u:List To):R σ:=if isS [41] u=true then .ok x u.tail else comS one (u.length+1) x u
def LiR (Inv:σ→List To→World→Prop) (Bd:List To→World→Prop) (r:R σ) (e:Ending) (w':World):Prop:=match r with
 | .ok y v=>e = .returned (.tuple #[])∧Inv y v w'
 | .bad v=>e = .panicked misC∧Bd v w'
 | .out=>False
structure OneL (gp:Nat) (A:Option Addr) (c:Nat) (l:List To) (Inv:σ→List To→World→Prop) (Bd:List To→World→Prop) (one:σ→List To→R σ) (F:Nat) (args:Array Value):Prop where
 enter:∀ a w,(callFunc F a).run Try.prog w = .ok (.enter F a) w
 call:∀ x u W,Inv x u W→Calls Try.prog F args W (LiR Inv Bd (one x u))
 ps:∀ x u W,Inv x u W→Ps W gp A c l u
 step:∀ x u u' W W',Inv x u W→Ps W' gp A c l u'→W.grownBy W' (some gp)→u'.length≤u.length→Inv x u' W'
 bad:∀ x u W,Inv x u W→Bd u W
 len:∀ x u y v,one x u = .ok y v→v.length+1≤u.length
 nout:∀ x u,one x u ≠ .out
variable {Inv:σ→List To→World→Prop} {Bd:List To→World→Prop} {one:σ→List To→R σ} {gp:Nat} {A:Option Addr} {c:Nat} {l u:List To} {w:World} {x:σ}
theorem LiR.ok' {r:R σ} {e:Ending} {w':World} {y:σ} {v:List To} (hr:r = .ok y v) (he:e = .returned (.tuple #[])) (h:Inv y v w'):LiR Inv Bd r e w':=by
 subst hr;exact ⟨he,h⟩
theorem LiR.bad' {r:R σ} {e:Ending} {w':World} {v:List To} (hr:r = .bad v) (he:e = .panicked misC) (h:Bd v w'):LiR Inv Bd r e w':=by
 subst hr;exact ⟨he,h⟩
set_option maxRecDepth 100000 in
set_option maxHeartbeats 8000000 in
theorem listed_any (F:Nat) (recv caps:Array Value) (hO:OneL gp A c l Inv Bd one F (recv++caps)) (hi:Inv x u w) :
 Calls Try.prog 60 #[.pointer (some ⟨gp,0,none⟩),.func (.func F) recv caps] w (LiR Inv Bd (lisS one x u)):=by
 have HO:=h_ hO;have hE:=hO.enter;have H0:=h_ (PsW.new (hO.ps _ _ _ hi));have HI:=h_ hi;obtain ⟨r,hr⟩:∃ r,lisS one x u=r:=⟨_,rfl⟩;rw [hr];have HR:=h_ (show r=if isS [41] u=true then .ok x u.tail else comS one (u.length+1) x u from hr.symm);clear hr hi hO;go_enter Try.func60,Try.ntmps60;go_wp2_with fail
 refine nP (by kernel_rfl) fun hH=>?_;refine heldTake (i:=0) (d:=some 4) (v:=?_) rfl rfl (by kernel_rfl) (by kernel_rfl) (by kernel_rfl) (fun _ _ _ h=>h) (by kernel_rfl) ?hyq_1 (by assumption) ?restq_1;case hyq_1=>(intro W9 hSw;(try dsimp only at hSw);go_simp;try (with_reducible rfl))
 (try simp only [Act.put,nA,nB,nC]);refine heldTake (i:=1) (d:=some 5) (v:=?_) rfl rfl (by kernel_rfl) (by kernel_rfl) (by kernel_rfl) (fun _ _ _ h=>h) (by kernel_rfl) ?hyq_2 (by assumption) ?restq_2;case hyq_2=>(intro W9 hSw;(try dsimp only at hSw);go_simp;try (with_reducible rfl))
 (try simp only [Act.put,nA,nB,nC]);refine heldTake (i:=2) (d:=some 6) (v:=?_) rfl rfl (by kernel_rfl) (by kernel_rfl) (by kernel_rfl) (fun _ _ _ h=>h) (by kernel_rfl) ?hyq_3 (by assumption) ?restq_3;case hyq_3=>(intro W9 hSw;(try dsimp only at hSw);go_simp;try (with_reducible rfl))
 (try simp only [Act.put,nA,nB,nC]);refine nM (i:=3) (by kernel_rfl) rfl fun K hK=>?_;go_simp;go_at_call 58
 refine (sign_any [41] _).mono ?_;rintro e9 X ⟨rfl,hbX⟩;have H1x:=h_ (H0.out.drew.below hbX);clear hbX;go_wp2_with fail
 refine hK.out _ _ trivial (fun hH=>?_);clear hK K;(try simp only [Act.put,nA,nB,nC]);refine nM (i:=4) (by kernel_rfl) rfl fun K hK=>?_;go_simp;go_at_call 59
 refine (takeT_any H1x.out.p 4 [41] (by decide)).mono ?_;rintro e9 Y ⟨rfl,hpY,hgY⟩;have H1:=h_ (H1x.out.step hpY hgY (stp_len _ _ _));clear hpY hgY H1x;go_wp2_with fail
 refine hK.out _ _ trivial (fun hH=>?_);clear hK K;(try simp only [Act.put,nA,nB,nC]);refine wpAnyH_done (by kernel_rfl) ?_ _;cases hq:isT 4 [41] u
 · rw [stp_no hq] at H1;have HF:=h_ (HR.out.trans (if_neg (by show ¬ isT 4 [41] u=true;rw [hq];decide)));have HI1:=h_ (HO.out.step _ _ _ _ _ HI.out H1.out.p H1.out.g (Nat.le_refl _));have HC:=h_ (HO.out.call _ _ _ HI1.out);clear H0 H1 HI HR hq;rcases hx:one x u with ⟨y,v⟩ | v | _
   · rw [hx] at HC;have hl0:=HO.out.len _ _ _ _ hx;have HG:=h_ (show r=if isS [44] v=true then comS one u.length y v.tail else takeS [41] v fun w=> .ok y w by rw [HF.out,comS,hx];rfl);clear HF hx;(go_wp2_with fail);refine HC.out.mono ?_;rintro e w2 ⟨rfl,hi2⟩;have HI2:=h_ hi2;clear hi2 HC HI1;go_wp2_with fail
     go_loopw [] (fun wr=>∃ (n:Nat) (y:σ) (v:List To),v.length≤n∧Hid (r=if isS [44] v=true then comS one n y v.tail else takeS [41] v fun w=> .ok y w)∧Hid (Inv y v wr)) (fun wr=>lft wr gp l)
     (case atStart=>exact ⟨u.length,y,v,by omega,HG,HI2⟩);case round=>
      obtain ⟨n,y2,v2,hn,hr2,hI⟩:=hrel;obtain ⟨w3,rfl⟩:∃ z,z=wr:=⟨_,rfl⟩;have HL3:=h_ ((HO.out.ps _ _ _ hI.out).lft);have H3:=h_ (PsW.new (HO.out.ps _ _ _ hI.out));clear HG HI2 hl0;(go_wp2_with fail);refine nP (by kernel_rfl) fun hH=>?_;refine heldTake (i:=0) (d:=some 11) (v:=?_) rfl rfl (by kernel_rfl) (by kernel_rfl) (by kernel_rfl) (fun _ _ _ h=>h) (by kernel_rfl) ?hyq_4 (by assumption) ?restq_4;(case hyq_4=>(intro W9 hSw;(try dsimp only at hSw);go_simp;try (with_reducible rfl)));(try simp only [Act.put,nA,nB,nC]);refine heldTake (i:=1) (d:=some 12) (v:=?_) rfl rfl (by kernel_rfl) (by kernel_rfl) (by kernel_rfl) (fun _ _ _ h=>h) (by kernel_rfl) ?hyq_5 (by assumption) ?restq_5;(case hyq_5=>(intro W9 hSw;(try dsimp only at hSw);go_simp;try (with_reducible rfl)));(try simp only [Act.put,nA,nB,nC]);refine heldTake (i:=2) (d:=some 13) (v:=?_) rfl rfl (by kernel_rfl) (by kernel_rfl) (by kernel_rfl) (fun _ _ _ h=>h) (by kernel_rfl) ?hyq_6 (by assumption) ?restq_6;(case hyq_6=>(intro W9 hSw;(try dsimp only at hSw);go_simp;try (with_reducible rfl)));(try simp only [Act.put,nA,nB,nC]);refine nM (i:=3) (by kernel_rfl) rfl fun K hK=>?_;go_simp;(go_at_call 58);refine (sign_any [44] _).mono ?_;rintro e9 X ⟨rfl,hbX⟩;have H4x:=h_ (H3.out.drew.below hbX);clear hbX;(go_wp2_with fail);refine hK.out _ _ trivial (fun hH=>?_);clear hK K;(try simp only [Act.put,nA,nB,nC]);refine nM (i:=4) (by kernel_rfl) rfl fun K hK=>?_;go_simp;(go_at_call 59);refine (takeT_any H4x.out.p 4 [44] (by decide)).mono ?_;rintro e9 Y ⟨rfl,hpY,hgY⟩;have H4:=h_ (H4x.out.step hpY hgY (stp_len _ _ _));clear hpY hgY H4x;(go_wp2_with fail);refine hK.out _ _ trivial (fun hH=>?_);clear hK K;(try simp only [Act.put,nA,nB,nC]);refine wpAnyH_done (by kernel_rfl) ?_ _;cases hq:isT 4 [44] v2
      · rw [stp_no hq] at H4;have HF:=h_ (hr2.out.trans (if_neg (by show ¬ isT 4 [44] v2=true;rw [hq];decide)));have HI4:=h_ (HO.out.step _ _ _ _ _ hI.out H4.out.p H4.out.g (Nat.le_refl _));clear H3 hr2 hI hq;(go_wp2_with fail);cases hq:isT 4 [41] v2
        · have HE:=h_ (HF.out.trans (takeS_no hq));have HPx:=h_ (PsW.new (HO.out.ps _ _ _ HI4.out));refine nP (by kernel_rfl) fun hH=>?_;have H5d:=h_ HPx.out.drew;refine heldTake (i:=0) (d:=some 18) (v:=?_) rfl rfl (by kernel_rfl) (by kernel_rfl) (by kernel_rfl) (fun _ _ _ h=>h) (by kernel_rfl) ?hyq_7 (by assumption) ?restq_7;(case hyq_7=>(intro W9 hSw;(try dsimp only at hSw);go_simp;try (with_reducible rfl)));(try simp only [Act.put,nA,nB,nC]);refine heldTake (i:=1) (d:=some 19) (v:=?_) rfl rfl (by kernel_rfl) (by kernel_rfl) (by kernel_rfl) (fun _ _ _ h=>h) (by kernel_rfl) ?hyq_8 (by assumption) ?restq_8;(case hyq_8=>(intro W9 hSw;(try dsimp only at hSw);go_simp;try (with_reducible rfl)));(try simp only [Act.put,nA,nB,nC]);refine heldTake (i:=2) (d:=some 20) (v:=?_) rfl rfl (by kernel_rfl) (by kernel_rfl) (by kernel_rfl) (fun _ _ _ h=>h) (by kernel_rfl) ?hyq_9 (by assumption) ?restq_9;(case hyq_9=>(intro W9 hSw;(try dsimp only at hSw);go_simp;try (with_reducible rfl)));(try simp only [Act.put,nA,nB,nC]);refine nM (i:=3) (by kernel_rfl) rfl fun K hK=>?_;go_simp;(go_at_call 58);refine (sign_any [41] _).mono ?_;rintro e9 X ⟨rfl,hbX⟩;have H5x:=h_ (H5d.out.below hbX);clear hbX;(go_wp2_with fail);refine hK.out _ _ trivial (fun hH=>?_);clear hK K;(try simp only [Act.put,nA,nB,nC]);refine nM (i:=4) (by kernel_rfl) rfl fun K hK=>?_;(try rw [if_pos (by kernel_rfl)]);refine El.op_build1 eTo X 22 (.agg #[.int .u8 0,.string ⟨#[]⟩,.int .i64 0,.int .i64 0]) 40 Try.underlying22 tok_info rfl (by decide) (.tmp 21) rfl (tV ⟨4,[41],0,0⟩) ⟨4,[41],0,0⟩ rfl rfl ?_;change K (Act.put _ (some 22) (.slice (some ⟨X.heap.size,0,none⟩) 1 1)) (X.alloc (.cells (eTo.f ⟨4,[41],0,0⟩).toArray 77));have hbY:=below_lnew X (.cells (eTo.f ⟨4,[41],0,0⟩).toArray 77);have hT9:=El.liesT_new eTo X [⟨4,[41],0,0⟩] (eTo.f ⟨4,[41],0,0⟩).toArray (fun i v h=>by simpa [eTo,tS] using h);obtain ⟨Y,hY⟩:∃ Y,X.alloc (.cells (eTo.f ⟨4,[41],0,0⟩).toArray 77)=Y:=⟨_,rfl⟩
          replace hT9:eTo.LiesT (X.alloc (.cells (eTo.f ⟨4,[41],0,0⟩).toArray 77)) (some ⟨X.heap.size,0,none⟩) [⟨4,[41],0,0⟩]:=hT9
          rw [hY] at hbY hT9 ⊢;have H5y:=h_ (H5x.out.below hbY);have HT9:=h_ hT9;clear hY hbY hT9;refine hK.out _ _ trivial (fun hH=>?_);clear hK K;(try simp only [Act.put,nA,nB,nC]);refine nM (i:=5) (by kernel_rfl) rfl fun K hK=>?_;go_simp;(go_at_call 56);refine (need_any H5y.out.p [⟨4,[41],0,0⟩] (one_kd 4 (by decide) _) (some ⟨_,0,none⟩) 1 HT9.out (by simp)).mono ?_;rintro e9 Z hN;rw [nd1_no hq] at hN;obtain ⟨rfl,hpZ,hgZ⟩:=hN;have hb9:=HO.out.bad _ _ _ (HO.out.step _ _ _ _ _ HI4.out hpZ (grown_trans H5y.out.g hgZ) (Nat.le_refl _));(go_wp2_with fail);exact ⟨rfl,LiR.bad' HE.out rfl hb9⟩
        · have HE:=h_ (HF.out.trans (takeS_yes hq));have HPx:=h_ (PsW.new (HO.out.ps _ _ _ HI4.out));refine nP (by kernel_rfl) fun hH=>?_;have H5d:=h_ HPx.out.drew;refine heldTake (i:=0) (d:=some 18) (v:=?_) rfl rfl (by kernel_rfl) (by kernel_rfl) (by kernel_rfl) (fun _ _ _ h=>h) (by kernel_rfl) ?hyq_10 (by assumption) ?restq_10;(case hyq_10=>(intro W9 hSw;(try dsimp only at hSw);go_simp;try (with_reducible rfl)));(try simp only [Act.put,nA,nB,nC]);refine heldTake (i:=1) (d:=some 19) (v:=?_) rfl rfl (by kernel_rfl) (by kernel_rfl) (by kernel_rfl) (fun _ _ _ h=>h) (by kernel_rfl) ?hyq_11 (by assumption) ?restq_11;(case hyq_11=>(intro W9 hSw;(try dsimp only at hSw);go_simp;try (with_reducible rfl)));(try simp only [Act.put,nA,nB,nC]);refine heldTake (i:=2) (d:=some 20) (v:=?_) rfl rfl (by kernel_rfl) (by kernel_rfl) (by kernel_rfl) (fun _ _ _ h=>h) (by kernel_rfl) ?hyq_12 (by assumption) ?restq_12;(case hyq_12=>(intro W9 hSw;(try dsimp only at hSw);go_simp;try (with_reducible rfl)));(try simp only [Act.put,nA,nB,nC]);refine nM (i:=3) (by kernel_rfl) rfl fun K hK=>?_;go_simp;(go_at_call 58);refine (sign_any [41] _).mono ?_;rintro e9 X ⟨rfl,hbX⟩;have H5x:=h_ (H5d.out.below hbX);clear hbX;(go_wp2_with fail);refine hK.out _ _ trivial (fun hH=>?_);clear hK K;(try simp only [Act.put,nA,nB,nC]);refine nM (i:=4) (by kernel_rfl) rfl fun K hK=>?_;(try rw [if_pos (by kernel_rfl)]);refine El.op_build1 eTo X 22 (.agg #[.int .u8 0,.string ⟨#[]⟩,.int .i64 0,.int .i64 0]) 40 Try.underlying22 tok_info rfl (by decide) (.tmp 21) rfl (tV ⟨4,[41],0,0⟩) ⟨4,[41],0,0⟩ rfl rfl ?_;change K (Act.put _ (some 22) (.slice (some ⟨X.heap.size,0,none⟩) 1 1)) (X.alloc (.cells (eTo.f ⟨4,[41],0,0⟩).toArray 77));have hbY:=below_lnew X (.cells (eTo.f ⟨4,[41],0,0⟩).toArray 77);have hT9:=El.liesT_new eTo X [⟨4,[41],0,0⟩] (eTo.f ⟨4,[41],0,0⟩).toArray (fun i v h=>by simpa [eTo,tS] using h);obtain ⟨Y,hY⟩:∃ Y,X.alloc (.cells (eTo.f ⟨4,[41],0,0⟩).toArray 77)=Y:=⟨_,rfl⟩
          replace hT9:eTo.LiesT (X.alloc (.cells (eTo.f ⟨4,[41],0,0⟩).toArray 77)) (some ⟨X.heap.size,0,none⟩) [⟨4,[41],0,0⟩]:=hT9
          rw [hY] at hbY hT9 ⊢;have H5y:=h_ (H5x.out.below hbY);have HT9:=h_ hT9;clear hY hbY hT9;refine hK.out _ _ trivial (fun hH=>?_);clear hK K;(try simp only [Act.put,nA,nB,nC]);refine nM (i:=5) (by kernel_rfl) rfl fun K hK=>?_;go_simp;(go_at_call 56);refine (need_any H5y.out.p [⟨4,[41],0,0⟩] (one_kd 4 (by decide) _) (some ⟨_,0,none⟩) 1 HT9.out (by simp)).mono ?_;rintro e9 Z hN;rw [nd1_yes hq] at hN;obtain ⟨rfl,hpZ,hgZ⟩:=hN;have HI9:=h_ (HO.out.step _ _ _ _ _ HI4.out hpZ (grown_trans H5y.out.g hgZ) (tail_le _));clear hpZ hgZ;(go_wp2_with fail);refine hK.out _ _ trivial (fun hH=>?_);clear hK K;(try simp only [Act.put,nA,nB,nC]);refine wpAnyH_done (by kernel_rfl) ?_ _;(go_wp2_with fail);refine bodyPost_end (results_none rfl _ _ _) rfl ?_;exact LiR.ok' HE.out rfl HI9.out
      · rw [stp_yes hq] at H4;have HF:=h_ (hr2.out.trans (if_pos hq));have HI4:=h_ (HO.out.step _ _ _ _ _ hI.out H4.out.p H4.out.g (tail_le _));have hvt:=tail_len (isS_ne hq);obtain ⟨m,rfl⟩:∃ m,n=m+1:=⟨n - 1,by omega⟩;have HC:=h_ (HO.out.call _ _ _ HI4.out);clear H3 H4 hr2 hI hq;rcases hx:one y2 v2.tail with ⟨y3,v3⟩ | v3 | _
        · rw [hx] at HC;have hl3:=HO.out.len _ _ _ _ hx;have HG:=h_ (show r=if isS [44] v3=true then comS one m y3 v3.tail else takeS [41] v3 fun w=> .ok y3 w by rw [HF.out,comS,hx];rfl);clear HF hx;(go_wp2_with fail);refine HC.out.mono ?_;rintro e w5 ⟨rfl,hi5⟩;have HI5:=h_ hi5;have HL5:=h_ ((HO.out.ps _ _ _ hi5).lft);clear hi5 HC HI4;go_wp2_with fail
          go_roundw
          (case rel=>exact ⟨m,y3,v3,by omega,HG,HI5⟩);case measure=>
           have h1:=HL3.out;have h2:=HL5.out;omega
        · rw [hx] at HC;have HE:=h_ (show r = .bad v3 by rw [HF.out,comS,hx];rfl);(go_wp2_with fail);refine HC.out.mono ?_;rintro e w5 ⟨rfl,hb5⟩;(go_wp2_with fail);exact ⟨rfl,LiR.bad' HE.out rfl hb5⟩
        · exact absurd hx (HO.out.nout _ _)
   · rw [hx] at HC;have HE:=h_ (show r = .bad v by rw [HF.out,comS,hx];rfl);(go_wp2_with fail);refine HC.out.mono ?_;rintro e w2 ⟨rfl,hb2⟩;(go_wp2_with fail);exact ⟨rfl,LiR.bad' HE.out rfl hb2⟩
   · exact absurd hx (HO.out.nout _ _)
 · rw [stp_yes hq] at H1;have HE:=h_ (HR.out.trans (if_pos hq));have HI1:=h_ (HO.out.step _ _ _ _ _ HI.out H1.out.p H1.out.g (tail_le _));(go_wp2_with fail);refine bodyPost_end (results_none rfl _ _ _) rfl ?_;exact LiR.ok' HE.out rfl HI1.out
end
end Go.Proofs.Ytflhcdcifilfcaa
