/-
  Merged for a claim: VCD, VCE.
-/
import Derived.Test.YtflhcdcifilfcaaHJ17
namespace Go.Proofs.Ytflhcdcifilfcaa
open Go Go.RowKit

set_option maxRecDepth 100000 in
theorem refWords_any (w:World):Calls Try.prog 46 #[] w fun e w'=>e = .returned (.slice (some ⟨w.heap.size,0,none⟩) 14 14)∧Below w.heap.size w w'∧eS.Lies w' w'.heap.size (some ⟨w.heap.size,0,none⟩) wordsL:=by
 have hb0:∀ o,Below w.heap.size w (w.alloc o):=fun o=>(Below.refl _ _).alloc (Nat.le_refl _) _
 go_enter Try.func46,Try.ntmps46;go_wp2_with fail
 go_ret;refine ⟨rfl,hb0 _,strs_lie w _ wordsL rfl⟩
set_option maxRecDepth 100000 in
theorem sub_str {w:World} {A:Option Addr} {c:Nat} {l:List UInt8} (h:Lies w w.heap.size A l) (hc:l.length≤c) (hA:A=none→c=0) {k m:Nat} (hk:k≤m) (hm:m≤l.length) :
 ∃ A' c',(∀ w',(Instr.slice 34 (.slice A l.length c) (some (.int .i64 k)) (some (.int .i64 m)) none).run Try.prog w' = .ok (.slice A' (m - k) c') w')∧(∀ w',Below w.heap.size w w'→(convert 34 9 (.slice A' (m - k) c')).run Try.prog w' = .ok (.string (str ((l.drop k).take (m - k)))) w'):=by
 have hs:(Try.prog.info? 5).map (·.size)=some 1:=by kernel_rfl
 refine ⟨if c=k then A else A.map (·.add (k*1)),c - k,fun w'=>?_,fun w' hb=>?_⟩
 · have:=run_slice_lh (P:=Try.prog) w' 34 A l.length c Try.underlying34 .i64 .i64 (k:Int) (m:Int) (by omega) (by omega) (by omega);rw [this];cases hq:Try.prog.info? 5 with
   | none=>simp [hq] at hs
   | some i0=>
    (have h1:i0.size=1:=by simpa [hq] using hs);simp [sizeOf,typeInfo,Program.elem,Try.underlying34,hq,h1,sliced,Result.andThen,go_sem]
 · have hlen:((l.drop k).take (m - k)).length=m - k:=by rw [List.length_take,List.length_drop];omega
   have:=conv_any w' (if c=k then A else A.map (·.add (k*1))) ((l.drop k).take (m - k)) (c - k) (fun j hj=>by
    rw [hlen] at hj;obtain ⟨g,o,rfl,_,hcell⟩:=(h.below hb).at_ (show k+j < l.length by omega);refine ⟨⟨g,o+k*1,none⟩,?_,?_⟩
    · rw [if_neg (by omega)];show some ((⟨g,o,none⟩:Addr).add (k*1))=_;rw [add_zero_off]
    · rw [add_zero_off,show o+k*1+j=o+(k+j) by omega,hcell];have:((l.drop k).take (m - k))[j]'(by rw [hlen];exact hj)=l[k+j]:=by simp
      rw [this])
   rw [hlen] at this;exact this
theorem tw_step {P:UInt8→Bool} {l:List UInt8} {n k m:Nat} (h:m < l.length) (e:k+n=m+((l.drop m).takeWhile P).length) (hp:P l[m]=true):k+n=m+1+((l.drop (m+1)).takeWhile P).length:=by
 rw [e,List.drop_eq_getElem_cons h,List.takeWhile_cons,if_pos hp,List.length_cons];omega
theorem tw_end {P:UInt8→Bool} {l:List UInt8} {n k m:Nat} (h:m < l.length) (e:k+n=m+((l.drop m).takeWhile P).length) (hp:P l[m]=false):k+n=m:=by
 rw [e,List.drop_eq_getElem_cons h,List.takeWhile_cons,if_neg (by simp [hp])];rfl
set_option maxRecDepth 100000 in
set_option maxHeartbeats 8000000 in
theorem refOne_name (A:Option Addr) (c:Nat) (l:List UInt8) (k:Nat) (w:World) (hl:Lies w w.heap.size A l) (hn:l.length≤1099511627776) (hlc:l.length≤c) (hA:A=none→c=0) (hk:k < l.length) (hc:tLe l[k]=true) :
 Calls Try.prog 27 #[.slice A l.length c,.int .i64 k] w (OneR (l.drop k) w):=by
 have HT:=Lib.hid (show tok1 (l.drop k)=if 24 < ((l.drop k).takeWhile tLd).length then none else some (if (l.drop k).takeWhile tLd∈wordsL then 3 else 1,(l.drop k).takeWhile tLd,0) by rw [List.drop_eq_getElem_cons hk];simp only [tok1,hc,if_true]);have hb0:∀ o,Below w.heap.size w (w.alloc o):=fun o=>(Below.refl _ _).alloc (Nat.le_refl _) _
 have HLi:=Lib.hid (fun o=>(hl.below (hb0 o)).more (hb0 o).size);obtain ⟨n,hn'⟩:∃ n,((l.drop k).takeWhile tLd).length=n:=⟨_,rfl⟩;obtain ⟨M,hM⟩:∃ M,k+n=M:=⟨_,rfl⟩;have hnle:M≤l.length:=by
  have:=take_le tLd (l.drop k);rw [List.length_drop] at this;omega
 have HS:=Lib.hid (show (l.drop k).take n=(l.drop k).takeWhile tLd by rw [← hn',take_len]);have H0:=Lib.hid (show M=k+((l.drop k).takeWhile tLd).length by rw [hn',hM]);have HLE:=Lib.hid (show ∀ w',Calls Try.prog 43 #[.int .u8 ((l[k]).toNat:Int)] w' fun e w2=>e = .returned (.bool true)∧w'=w2 from fun w'=>by have:=refLetter_i ((l[k]).toNat:Int) w';rw [show leI ((l[k]).toNat:Int)=true from hc] at this;exact this);obtain ⟨A',c',hsl,hcv⟩:=sub_str hl hlc hA (k:=k) (m:=M) (by omega) hnle;rw [show M - k=n by omega] at hsl hcv;rw [HS.out] at hcv;rw [hn'] at HT;have hslen:=hn';have hkM:k≤M:=by omega
 clear hM hn';obtain ⟨s,HSE⟩:∃ s,Hid ((l.drop k).takeWhile tLd=s):=⟨_,rfl⟩;rw [HSE.out] at HT hslen hcv;clear HS HSE;unfold OneR;generalize tok1 (l.drop k)=res at *;have HCV:=Lib.hid hcv;obtain ⟨g,o,rfl,hg,hcell⟩:=hl.at_ hk;have hc0:∀ ob,(w.alloc ob).cell? ⟨g,o+k,none⟩=some (.int .u8 ((l[k]).toNat:Int)):=fun ob=>((hb0 ob).cell hg).trans hcell
 have hlti:(k:Int) < (l.length:Int):=by omega
 have hni:(l.length:Int)≤1099511627776:=by omega
 clear hl hcell hcv;generalize ((l[k]).toNat:Int)=C at *;go_enter Try.func27,Try.ntmps27;go_wp2_with fail
 refine (HLE.out _).mono ?_;rintro e w' ⟨rfl,rfl⟩;clear HLE hc0;go_wp2_with fail
 go_loop [6] (fun i=>∃ m:Nat,k≤m∧m≤l.length∧i = .int .i64 m∧Hid (M=m+((l.drop m).takeWhile tLd).length)) (fun i=>l.length - (intOf i).toNat)
 case atStart=>exact ⟨k,by omega,by omega,rfl,H0⟩
 case round=>
  obtain ⟨m,hm1,hm2,rfl,HM⟩:=hrel;clear H0;by_cases hltm:m < l.length
  · (have hltmi:(m:Int) < (l.length:Int):=by omega);have hcm:∀ ob,(w.alloc ob).cell? ⟨g,o+m,none⟩=some (.int .u8 ((l[m]).toNat:Int)):=fun ob=>by
     obtain ⟨g',o',e',_,hcm⟩:=(HLi.out ob).at_ hltm;cases e';exact hcm
    have HLm:=Lib.hid (fun w'=>refLetter_i ((l[m]).toNat:Int) w');have HDm:=Lib.hid (fun w'=>refDigit_i ((l[m]).toNat:Int) w');have HXL:=Lib.hid (show leI ((l[m]).toNat:Int)=tLe l[m] from rfl);have HXD:=Lib.hid (show diI ((l[m]).toNat:Int)=tDi l[m] from rfl);have HN:=Lib.hid (fun hp=>tw_step (P:=tLd) (n:=M) (k:=0) hltm (by rw [Nat.zero_add];exact HM.out) hp);have HE:=Lib.hid (fun hp=>tw_end (P:=tLd) (n:=M) (k:=0) hltm (by rw [Nat.zero_add];exact HM.out) hp);have HPL:=Lib.hid (show tLd l[m]=(tLe l[m] || tDi l[m]) from rfl);clear HM;generalize tLd l[m]=p at *;cases h1:tLe l[m]
    · rw [h1] at HXL HPL;rw [HXL.out] at HLm;cases h2:tDi l[m]
      · rw [h2] at HXD HPL;rw [HXD.out] at HDm;have HEE:=Lib.hid (HE.out HPL.out);clear HXL HXD HN HE HPL h1 h2;generalize ((l[m]).toNat:Int)=X at *;(obtain rfl:m=M:=by have:=HEE.out;omega);clear HEE;(go_wp2_with fail);refine (HLm.out _).mono ?_;rintro e w' ⟨rfl,rfl⟩;(go_wp2_with fail);refine (HDm.out _).mono ?_;rintro e w' ⟨rfl,rfl⟩;clear HLm HDm hcm;(have hcvX:=fun ob=>HCV.out _ (hb0 ob));(go_wp2_with fail);refine (refWords_any _).mono ?_;rintro e w2 ⟨rfl,hb2,hW⟩;have HIN:Hid (Calls Try.prog 45 #[.slice (some ⟨(w.alloc (.cells #[.int .u8 0,.string ⟨#[]⟩,.int .i64 0,.int .i64 0] 77)).heap.size,0,none⟩) 14 14,.string (str s)] w2 fun e w'=>e = .returned (.bool (decide (s∈wordsL)))∧w2=w'):=in_any _ 14 wordsL s w2 (by decide) hW;simp only [World.size_alloc] at HIN;have hA:CAt w2 w.heap.size 77 [.int .u8 0,.string (str []),.int .i64 0,.int .i64 0]:=CAt.below (heap_alloc_new w _) hb2 (by simp);have HB1:=Lib.hid ((hb0 _).trans (hb2.mono (hb0 _).size));have f0:=hA.frozen 0;have f1:=hA.frozen 1;have f2:=hA.frozen 2;have f3:=hA.frozen 3;have s0:=hA.cell (j:=0) (by simp);have s1:=hA.cell (j:=1) (by simp);have s2:=hA.cell (j:=2) (by simp);have s3:=hA.cell (j:=3) (by simp);have hss:=str_sz s;have HSL:=Lib.hid hslen;clear hb2 hW;(go_wp2_with fail);refine HIN.out.mono ?_;rintro e w' ⟨rfl,rfl⟩;clear HIN;by_cases hwd:s∈wordsL
        · have hd:decide (s∈wordsL)=true:=decide_eq_true hwd
          have h24 : s.length ≤ 24 := by have : ∀ s ∈ wordsL, s.length ≤ 24 := by decide
                                         exact this s hwd
          have HRES:=Lib.hid (show res=some (3,s,0) by rw [HT.out,if_neg (by have:=HSL.out;omega),if_pos hwd]);clear hwd HT hslen;have HW:=Lib.hid ((((hA.set 0 (.int .u8 3)).set 1 (.string (str s))).set 2 (.int .i64 0)).set 3 (.int .i64 0));clear hA hcvX hsl;(go_wp2_with fail);refine bodyPost_ret (tokv_back rfl rfl HW.out) rfl ?_;exact ⟨HB1.out.grown (grown4 _ _ _ _ _ _) HB1.out.size (fun j e=>by cases e;exact Nat.le_refl _),_,_,_,_,rfl,.inr ⟨HRES.out,rfl⟩⟩
        · have hd:decide (s∈wordsL)=false:=decide_eq_false hwd;by_cases h24:s.length≤24
          · (have h24i:(s.length:Int)≤24:=by omega);have HRES:=Lib.hid (show res=some (1,s,0) by rw [HT.out,if_neg (by have:=HSL.out;omega),if_neg hwd]);clear hwd HT hslen;have HW:=Lib.hid ((((hA.set 0 (.int .u8 1)).set 1 (.string (str s))).set 2 (.int .i64 0)).set 3 (.int .i64 0));clear hA hcvX hsl;(go_wp2_with fail);refine bodyPost_ret (tokv_back rfl rfl HW.out) rfl ?_;exact ⟨HB1.out.grown (grown4 _ _ _ _ _ _) HB1.out.size (fun j e=>by cases e;exact Nat.le_refl _),_,_,_,_,rfl,.inr ⟨HRES.out,by simp⟩⟩
          · (have h24i:(24:Int) < (s.length:Int):=by omega);have HRES:=Lib.hid (show res=none by rw [HT.out,if_pos (by have:=HSL.out;omega)]);clear hwd HT hslen;have HW:=Lib.hid ((((hA.set 0 (.int .u8 1)).set 1 (.string (str s))).set 2 (.int .i64 0)).set 3 (.int .i64 0));clear hA hcvX hsl;(go_wp2_with fail);refine bodyPost_ret (tokv_back rfl rfl HW.out) rfl ?_;exact ⟨HB1.out.grown (grown4 _ _ _ _ _ _) HB1.out.size (fun j e=>by cases e;exact Nat.le_refl _),_,_,_,_,rfl,.inl ⟨HRES.out,by simp;omega⟩⟩
      · rw [h2] at HXD HPL;rw [HXD.out] at HDm;have HNN:=Lib.hid (HN.out HPL.out);clear HXL HXD HN HE HPL h1 h2;generalize ((l[m]).toNat:Int)=X at *;(go_wp2_with fail);refine (HLm.out _).mono ?_;rintro e w' ⟨rfl,rfl⟩;(go_wp2_with fail);refine (HDm.out _).mono ?_;rintro e w' ⟨rfl,rfl⟩;clear HLm HDm;go_wp2_with fail
        go_round
        (case rel=>exact ⟨m+1,by omega,by omega,by go_num,by have:=HNN.out;rw [Nat.zero_add] at this;exact this⟩);case measure=>simp [intOf];omega
    · rw [h1] at HXL HPL;rw [HXL.out] at HLm;have HNN:=Lib.hid (HN.out (by rw [HPL.out];rfl));clear HXL HXD HN HE HPL h1 HDm;generalize ((l[m]).toNat:Int)=X at *;(go_wp2_with fail);refine (HLm.out _).mono ?_;rintro e w' ⟨rfl,rfl⟩;clear HLm;go_wp2_with fail
      go_round
      (case rel=>exact ⟨m+1,by omega,by omega,by go_num,by have:=HNN.out;rw [Nat.zero_add] at this;exact this⟩);case measure=>simp [intOf];omega
  · obtain rfl:m=M:=by
     have e1:=HM.out;rw [List.drop_eq_nil_of_le (by omega)] at e1;simp at e1;omega
    clear HM;(have hcvX:=fun ob=>HCV.out _ (hb0 ob));(go_wp2_with fail);refine (refWords_any _).mono ?_;rintro e w2 ⟨rfl,hb2,hW⟩;have HIN:Hid (Calls Try.prog 45 #[.slice (some ⟨(w.alloc (.cells #[.int .u8 0,.string ⟨#[]⟩,.int .i64 0,.int .i64 0] 77)).heap.size,0,none⟩) 14 14,.string (str s)] w2 fun e w'=>e = .returned (.bool (decide (s∈wordsL)))∧w2=w'):=in_any _ 14 wordsL s w2 (by decide) hW;simp only [World.size_alloc] at HIN;have hA:CAt w2 w.heap.size 77 [.int .u8 0,.string (str []),.int .i64 0,.int .i64 0]:=CAt.below (heap_alloc_new w _) hb2 (by simp);have HB1:=Lib.hid ((hb0 _).trans (hb2.mono (hb0 _).size));have f0:=hA.frozen 0;have f1:=hA.frozen 1;have f2:=hA.frozen 2;have f3:=hA.frozen 3;have s0:=hA.cell (j:=0) (by simp);have s1:=hA.cell (j:=1) (by simp);have s2:=hA.cell (j:=2) (by simp);have s3:=hA.cell (j:=3) (by simp);have hss:=str_sz s;have HSL:=Lib.hid hslen;clear hb2 hW;(go_wp2_with fail);refine HIN.out.mono ?_;rintro e w' ⟨rfl,rfl⟩;clear HIN;by_cases hwd:s∈wordsL
    · have hd:decide (s∈wordsL)=true:=decide_eq_true hwd
      have h24 : s.length ≤ 24 := by have : ∀ s ∈ wordsL, s.length ≤ 24 := by decide
                                     exact this s hwd
      have HRES:=Lib.hid (show res=some (3,s,0) by rw [HT.out,if_neg (by have:=HSL.out;omega),if_pos hwd]);clear hwd HT hslen;have HW:=Lib.hid ((((hA.set 0 (.int .u8 3)).set 1 (.string (str s))).set 2 (.int .i64 0)).set 3 (.int .i64 0));clear hA hcvX hsl;(go_wp2_with fail);refine bodyPost_ret (tokv_back rfl rfl HW.out) rfl ?_;exact ⟨HB1.out.grown (grown4 _ _ _ _ _ _) HB1.out.size (fun j e=>by cases e;exact Nat.le_refl _),_,_,_,_,rfl,.inr ⟨HRES.out,rfl⟩⟩
    · have hd:decide (s∈wordsL)=false:=decide_eq_false hwd;by_cases h24:s.length≤24
      · (have h24i:(s.length:Int)≤24:=by omega);have HRES:=Lib.hid (show res=some (1,s,0) by rw [HT.out,if_neg (by have:=HSL.out;omega),if_neg hwd]);clear hwd HT hslen;have HW:=Lib.hid ((((hA.set 0 (.int .u8 1)).set 1 (.string (str s))).set 2 (.int .i64 0)).set 3 (.int .i64 0));clear hA hcvX hsl;(go_wp2_with fail);refine bodyPost_ret (tokv_back rfl rfl HW.out) rfl ?_;exact ⟨HB1.out.grown (grown4 _ _ _ _ _ _) HB1.out.size (fun j e=>by cases e;exact Nat.le_refl _),_,_,_,_,rfl,.inr ⟨HRES.out,by simp⟩⟩
      · (have h24i:(24:Int) < (s.length:Int):=by omega);have HRES:=Lib.hid (show res=none by rw [HT.out,if_pos (by have:=HSL.out;omega)]);clear hwd HT hslen;have HW:=Lib.hid ((((hA.set 0 (.int .u8 1)).set 1 (.string (str s))).set 2 (.int .i64 0)).set 3 (.int .i64 0));clear hA hcvX hsl;(go_wp2_with fail);refine bodyPost_ret (tokv_back rfl rfl HW.out) rfl ?_;exact ⟨HB1.out.grown (grown4 _ _ _ _ _ _) HB1.out.size (fun j e=>by cases e;exact Nat.le_refl _),_,_,_,_,rfl,.inl ⟨HRES.out,by simp;omega⟩⟩
end Go.Proofs.Ytflhcdcifilfcaa

namespace Go.Proofs.Ytflhcdcifilfcaa
open Go Go.RowKit

theorem num_bad {c:UInt8} {n:Nat} (h:false=(decide (n=1) || !decide (c=48))):c=48∧n≠1:=by
 have h2:=h.symm;rw [Bool.or_eq_false_iff] at h2;exact ⟨by simpa using h2.2,of_decide_eq_false h2.1⟩
theorem num_ok {c:UInt8} {n:Nat} (h:true=(decide (n=1) || !decide (c=48))):¬ (c=48∧n≠1):=by
 rintro ⟨rfl,h2⟩;simp [h2] at h
set_option maxRecDepth 100000 in
set_option maxHeartbeats 8000000 in
theorem refOne_num (A:Option Addr) (c:Nat) (l:List UInt8) (k:Nat) (w:World) (hl:Lies w w.heap.size A l) (hn:l.length≤1099511627776) (hlc:l.length≤c) (hA:A=none→c=0) (hk:k < l.length) (hc1:tLe l[k]=false) (hc:tDi l[k]=true) :
 Calls Try.prog 27 #[.slice A l.length c,.int .i64 k] w (OneR (l.drop k) w):=by
 obtain ⟨cc,hcc⟩:∃ cc,l[k]=cc:=⟨_,rfl⟩;have HT:=Lib.hid (show tok1 (l.drop k)=if ((l.drop k).dropWhile tDi).head?.any tLe=true∨(cc=48∧((l.drop k).takeWhile tDi).length≠1)∨9223372036854775808≤val ((l.drop k).takeWhile tDi) then none else some (2,(l.drop k).takeWhile tDi,(val ((l.drop k).takeWhile tDi):Int)) by rw [List.drop_eq_getElem_cons hk,← hcc];simp only [tok1,hc1,hc,if_true];rfl);have hb0:∀ o,Below w.heap.size w (w.alloc o):=fun o=>(Below.refl _ _).alloc (Nat.le_refl _) _
 have HLi:=Lib.hid (fun o=>(hl.below (hb0 o)).more (hb0 o).size);obtain ⟨n,hn'⟩:∃ n,((l.drop k).takeWhile tDi).length=n:=⟨_,rfl⟩;obtain ⟨M,hM⟩:∃ M,k+n=M:=⟨_,rfl⟩;have hnle:M≤l.length:=by
  have:=take_le tDi (l.drop k);rw [List.length_drop] at this;omega
 have HS:=Lib.hid (show (l.drop k).take n=(l.drop k).takeWhile tDi by rw [← hn',take_len]);have HBD:=Lib.hid (show (l.drop k).dropWhile tDi=l.drop M by rw [← drop_len,hn',List.drop_drop,hM]);have H0:=Lib.hid (show M=k+((l.drop k).takeWhile tDi).length by rw [hn',hM]);have HLE:=Lib.hid (show ∀ w',Calls Try.prog 43 #[.int .u8 ((l[k]).toNat:Int)] w' fun e w2=>e = .returned (.bool false)∧w'=w2 from fun w'=>by have:=refLetter_i ((l[k]).toNat:Int) w';rw [show leI ((l[k]).toNat:Int)=false from hc1] at this;exact this);have HDE:=Lib.hid (show ∀ w',Calls Try.prog 44 #[.int .u8 ((l[k]).toNat:Int)] w' fun e w2=>e = .returned (.bool true)∧w'=w2 from fun w'=>by have:=refDigit_i ((l[k]).toNat:Int) w';rw [show diI ((l[k]).toNat:Int)=true from hc] at this;exact this);obtain ⟨A',c',hsl,hcv⟩:=sub_str hl hlc hA (k:=k) (m:=M) (by omega) hnle;rw [show M - k=n by omega] at hsl hcv;rw [HS.out] at hcv;have HSC:=Lib.hid (show ∃ t,(l.drop k).takeWhile tDi=cc::t from ⟨_,by rw [List.drop_eq_getElem_cons hk,List.takeWhile_cons,if_pos hc,hcc]⟩);have HAL:=Lib.hid (take_all tDi (l.drop k));have hkM:k≤M:=by omega
 have hn9:n≤1099511627776:=by omega
 have hslen:=hn';clear hM hn';obtain ⟨s,HSE⟩:∃ s,Hid ((l.drop k).takeWhile tDi=s):=⟨_,rfl⟩;rw [HSE.out] at HT hslen hcv HSC HAL
 have HNB:=Lib.hid (show ∀ w',Calls Try.prog 47 #[.string (str s)] w' (NumR (val s) (decide (s.length=1) || !decide (cc=48)) w') from fun w'=>by
  obtain ⟨t,ht⟩:=HSC.out;have hall:=HAL.out;rw [ht] at hall ⊢
  exact refNumber_any cc t w' (by rw [← ht];omega) hall)
 clear HS HSE HSC HAL;unfold OneR;generalize tok1 (l.drop k)=res at *;have HCV:=Lib.hid hcv;obtain ⟨g,o,rfl,hg,hcell⟩:=hl.at_ hk;have hc0:∀ ob,(w.alloc ob).cell? ⟨g,o+k,none⟩=some (.int .u8 ((l[k]).toNat:Int)):=fun ob=>((hb0 ob).cell hg).trans hcell
 have HCW:=Lib.hid (fun m (hm:m < l.length)=>(show w.cell? ⟨g,o+m,none⟩=some (.int .u8 ((l[m]).toNat:Int)) by
  obtain ⟨g',o',e',_,h⟩:=hl.at_ hm;cases e'
  exact h))
 have hlti:(k:Int) < (l.length:Int):=by omega
 have hni:(l.length:Int)≤1099511627776:=by omega
 have hMi:(M:Int)≤(l.length:Int):=by omega
 clear hl hcell hcv hcc;generalize ((l[k]).toNat:Int)=C at *;go_enter Try.func27,Try.ntmps27;go_wp2_with fail
 refine (HLE.out _).mono ?_;rintro e w' ⟨rfl,rfl⟩;clear HLE;go_wp2_with fail
 refine (HDE.out _).mono ?_;rintro e w' ⟨rfl,rfl⟩;clear HDE hc0;go_wp2_with fail
 go_loop [6] (fun i=>∃ m:Nat,k≤m∧m≤l.length∧i = .int .i64 m∧Hid (M=m+((l.drop m).takeWhile tDi).length)) (fun i=>l.length - (intOf i).toNat)
 case atStart=>exact ⟨k,by omega,by omega,rfl,H0⟩
 case round=>
  obtain ⟨m,hm1,hm2,rfl,HM⟩:=hrel;clear H0;by_cases hltm:m < l.length
  · (have hltmi:(m:Int) < (l.length:Int):=by omega);have hcm:∀ ob,(w.alloc ob).cell? ⟨g,o+m,none⟩=some (.int .u8 ((l[m]).toNat:Int)):=fun ob=>by
     obtain ⟨g',o',e',_,hcm⟩:=(HLi.out ob).at_ hltm;cases e';exact hcm
    have HDm:=Lib.hid (fun w'=>refDigit_i ((l[m]).toNat:Int) w');have HXD:=Lib.hid (show diI ((l[m]).toNat:Int)=tDi l[m] from rfl);have HN:=Lib.hid (fun hp=>tw_step (P:=tDi) (n:=M) (k:=0) hltm (by rw [Nat.zero_add];exact HM.out) hp);have HE:=Lib.hid (fun hp=>tw_end (P:=tDi) (n:=M) (k:=0) hltm (by rw [Nat.zero_add];exact HM.out) hp);clear HM;cases h2:tDi l[m]
    · rw [h2] at HXD;rw [HXD.out] at HDm;have HEE:=Lib.hid (HE.out h2);clear HXD HN HE h2;(obtain rfl:m=M:=by have:=HEE.out;omega);clear HEE;have HCM:=Lib.hid (HCW.out m hltm);have hmne:((m:Int) == (l.length:Int))=false:=beq_eq_false_iff_ne.2 (by omega);generalize hX:((l[m]).toNat:Int)=X at hcm HDm;(go_wp2_with fail);refine (HDm.out _).mono ?_;rintro e w' ⟨rfl,rfl⟩;clear HDm hcm hX;(have hcvX:=fun ob=>HCV.out _ (hb0 ob));(go_wp2_with fail);refine (HNB.out _).mono ?_;rintro e w2 ⟨hb2,x,b,rfl,hnum⟩;have hA:CAt w2 w.heap.size 77 [.int .u8 0,.string (str []),.int .i64 0,.int .i64 0]:=CAt.below (heap_alloc_new w _) hb2 (by simp);have HB1:=Lib.hid ((hb0 _).trans (hb2.mono (hb0 _).size));have f0:=hA.frozen 0;have f1:=hA.frozen 1;have f2:=hA.frozen 2;have f3:=hA.frozen 3;have s0:=hA.cell (j:=0) (by simp);have s1:=hA.cell (j:=1) (by simp);have s2:=hA.cell (j:=2) (by simp);have s3:=hA.cell (j:=3) (by simp);have HNUM:=Lib.hid hnum;have HW:=Lib.hid ((((hA.set 0 (.int .u8 2)).set 1 (.string (str s))).set 2 (.int .i64 x)).set 3 (.int .i64 0));have hcw:w2.cell? ⟨g,o+m,none⟩=some (.int .u8 ((l[m]).toNat:Int)):=(HB1.out.cell hg).trans HCM.out;clear hA hb2 hcvX hsl HNB hnum;cases b
      · have HRES:=Lib.hid (show res=none by
         rw [HT.out];rcases HNUM.out with ⟨h,_⟩ | ⟨_,_,h⟩
         · rw [if_pos (.inr (.inr (by omega)))]
         · rw [if_pos (.inr (.inl (num_bad h)))])
        clear HT HNUM;(go_wp2_with fail);refine bodyPost_ret (tokv_back rfl rfl HW.out) rfl ?_;exact ⟨HB1.out.grown (grown4 _ _ _ _ _ _) HB1.out.size (fun j e=>by cases e;exact Nat.le_refl _),_,_,_,_,rfl,.inl ⟨HRES.out,rfl⟩⟩
      · have HNU:=Lib.hid (show val s < 9223372036854775808∧x=(val s:Int)∧¬ (cc=48∧s.length≠1) from by
         rcases HNUM.out with ⟨_,h⟩ | ⟨h1,h2,h3⟩
         · cases h
         · exact ⟨h1,h2,num_ok h3⟩)
        clear HNUM;cases h1:tLe l[m]
        · have HLQ:=Lib.hid (show ∀ w',Calls Try.prog 43 #[.int .u8 ((l[m]).toNat:Int)] w' fun e w2=>e = .returned (.bool false)∧w'=w2 from fun w'=>by have:=refLetter_i ((l[m]).toNat:Int) w';rw [show leI ((l[m]).toNat:Int)=false from h1] at this;exact this)
          have HRES:=Lib.hid (show res=some (2,s,x) by
           rw [HT.out,if_neg (not_or3 (by rw [HBD.out,List.drop_eq_getElem_cons hltm,List.head?_cons];show ¬ (tLe l[m]=true);rw [h1];decide) HNU.out.2.2 (by have:=HNU.out.1;omega)),HNU.out.2.1])
          clear HT HNU h1;generalize ((l[m]).toNat:Int)=X at *;(go_wp2_with fail);refine (HLQ.out _).mono ?_;rintro e w' ⟨rfl,rfl⟩;clear HLQ;(go_wp2_with fail);refine bodyPost_ret (tokv_back rfl rfl HW.out) rfl ?_;exact ⟨HB1.out.grown (grown4 _ _ _ _ _ _) HB1.out.size (fun j e=>by cases e;exact Nat.le_refl _),_,_,_,_,rfl,.inr ⟨HRES.out,rfl⟩⟩
        · have HLQ:=Lib.hid (show ∀ w',Calls Try.prog 43 #[.int .u8 ((l[m]).toNat:Int)] w' fun e w2=>e = .returned (.bool true)∧w'=w2 from fun w'=>by have:=refLetter_i ((l[m]).toNat:Int) w';rw [show leI ((l[m]).toNat:Int)=true from h1] at this;exact this)
          have HRES:=Lib.hid (show res=none by
           rw [HT.out,if_pos (.inl (by rw [HBD.out,List.drop_eq_getElem_cons hltm,List.head?_cons];exact h1))])
          clear HT HNU h1;generalize ((l[m]).toNat:Int)=X at *;(go_wp2_with fail);refine (HLQ.out _).mono ?_;rintro e w' ⟨rfl,rfl⟩;clear HLQ;(go_wp2_with fail);refine bodyPost_ret (tokv_back rfl rfl HW.out) rfl ?_;exact ⟨HB1.out.grown (grown4 _ _ _ _ _ _) HB1.out.size (fun j e=>by cases e;exact Nat.le_refl _),_,_,_,_,rfl,.inl ⟨HRES.out,rfl⟩⟩
    · rw [h2] at HXD;rw [HXD.out] at HDm;have HNN:=Lib.hid (HN.out h2);clear HXD HN HE h2;generalize ((l[m]).toNat:Int)=X at *;(go_wp2_with fail);refine (HDm.out _).mono ?_;rintro e w' ⟨rfl,rfl⟩;clear HDm;go_wp2_with fail
      go_round
      (case rel=>exact ⟨m+1,by omega,by omega,by go_num,by have:=HNN.out;rw [Nat.zero_add] at this;exact this⟩);case measure=>simp [intOf];omega
  · obtain rfl:m=M:=by
     have e1:=HM.out;rw [List.drop_eq_nil_of_le (by omega)] at e1;simp at e1;omega
    (have hmq:((m:Int) == (l.length:Int))=true:=by rw [show (m:Int)=(l.length:Int) by omega];simp);clear HM;(have hcvX:=fun ob=>HCV.out _ (hb0 ob));(go_wp2_with fail);refine (HNB.out _).mono ?_;rintro e w2 ⟨hb2,x,b,rfl,hnum⟩;have hA:CAt w2 w.heap.size 77 [.int .u8 0,.string (str []),.int .i64 0,.int .i64 0]:=CAt.below (heap_alloc_new w _) hb2 (by simp);have HB1:=Lib.hid ((hb0 _).trans (hb2.mono (hb0 _).size));have f0:=hA.frozen 0;have f1:=hA.frozen 1;have f2:=hA.frozen 2;have f3:=hA.frozen 3;have s0:=hA.cell (j:=0) (by simp);have s1:=hA.cell (j:=1) (by simp);have s2:=hA.cell (j:=2) (by simp);have s3:=hA.cell (j:=3) (by simp);have HNUM:=Lib.hid hnum;have HW:=Lib.hid ((((hA.set 0 (.int .u8 2)).set 1 (.string (str s))).set 2 (.int .i64 x)).set 3 (.int .i64 0));clear hA hb2 hcvX hsl HNB hnum;cases b
    · have HRES:=Lib.hid (show res=none by
       rw [HT.out];rcases HNUM.out with ⟨h,_⟩ | ⟨_,_,h⟩
       · rw [if_pos (.inr (.inr (by omega)))]
       · rw [if_pos (.inr (.inl (num_bad h)))])
      clear HT HNUM;(go_wp2_with fail);refine bodyPost_ret (tokv_back rfl rfl HW.out) rfl ?_;exact ⟨HB1.out.grown (grown4 _ _ _ _ _ _) HB1.out.size (fun j e=>by cases e;exact Nat.le_refl _),_,_,_,_,rfl,.inl ⟨HRES.out,rfl⟩⟩
    · have HNU:=Lib.hid (show val s < 9223372036854775808∧x=(val s:Int)∧¬ (cc=48∧s.length≠1) from by
       rcases HNUM.out with ⟨_,h⟩ | ⟨h1,h2,h3⟩
       · cases h
       · exact ⟨h1,h2,num_ok h3⟩)
      clear HNUM
      have HRES:=Lib.hid (show res=some (2,s,x) by
       rw [HT.out,if_neg (not_or3 (by rw [HBD.out,List.drop_eq_nil_of_le (by omega)];simp) HNU.out.2.2 (by have:=HNU.out.1;omega)),HNU.out.2.1])
      clear HT HNU;(go_wp2_with fail);refine bodyPost_ret (tokv_back rfl rfl HW.out) rfl ?_;exact ⟨HB1.out.grown (grown4 _ _ _ _ _ _) HB1.out.size (fun j e=>by cases e;exact Nat.le_refl _),_,_,_,_,rfl,.inr ⟨HRES.out,rfl⟩⟩
end Go.Proofs.Ytflhcdcifilfcaa
