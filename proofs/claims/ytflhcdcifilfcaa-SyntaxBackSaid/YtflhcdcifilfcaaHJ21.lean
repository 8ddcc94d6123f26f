/-
  Merged for a claim: S4C, S4D.
-/
import Derived.Test.YtflhcdcifilfcaaHJ20
namespace Go.Proofs.Ytflhcdcifilfcaa
open Go

section
variable {m:Nat} {ln l2 l0:Int} {u:List To}
theorem semi_s {s:St}:semi s (sgn [59] ln::u) = .ok s u:=by
 unfold semi;rw [take_s]
theorem isC_no {x:Ex} (hx:Fine x) (hu:¬ isS [40] u=true):isC (x.kl m ln++u)=false:=by
 unfold isC;rcases kl_head (m:=m) (ln:=ln) hx with ⟨r,e⟩ | ⟨n,r,e⟩ | ⟨w,r,_,e⟩ | ⟨w,r,e,h⟩<;>rw [e,nI]
 · rw [isK_sgn];rfl
 · rw [isK_nu];rfl
 · rw [isK_wr];rfl
 · rw [List.tail_cons,Bool.eq_false_iff.2 (h u hu),Bool.and_false]
theorem isI_no {x:Ex} (hx:Fine x):isW wInput (x.kl m ln++u)=false:=by
 rcases kl_head (m:=m) (ln:=ln) hx with ⟨r,e⟩ | ⟨n,r,e⟩ | ⟨w,r,hw,e⟩ | ⟨w,r,e,h⟩<;>rw [e,nI]
 · rw [isW_sgn]
 · rw [isW_nu]
 · rw [isW_wr];rcases hw with rfl | rfl<;>decide
 · rw [isW_nm]
theorem set_exp {x:Ex} (hx:Fine x) (nm:List UInt8):setP ln nm (x.kl m l2++sgn [59] l0::u) = .ok (stm 2 ln nm [] [] ty0 [x]) (sgn [59] l0::u):=by
 unfold setP;rw [if_neg (by rw [isI_no hx];decide),if_neg (by rw [isC_no hx (by rw [isS_sgn];decide)];decide),read_to hx [59] (by decide) (by decide) (by decide)];rfl
theorem set_input (nm:List UInt8):setP ln nm (wrd wInput l2::sgn [40] l2::sgn [41] l2::u) = .ok (stm 9 ln nm [] [] ty0 []) u:=by
 unfold setP;rw [if_pos (by rw [isW_wr];rfl),List.tail_cons,take_s,take_s]
theorem isC_yes (cl:List UInt8):isC (nmT cl ln::sgn [40] l2::u)=true:=by
 unfold isC;rw [isK_nm,List.tail_cons,isS_sgn];rfl
theorem set_call {l:List Ex} (hl:∀ x∈l,Fine x) (nm cl:List UInt8):setP ln nm (nmT cl l2::(arL m l2 l++u)) = .ok (stm 5 ln nm [] cl ty0 l) u:=by
 unfold setP arL;rw [nI,if_neg (by rw [isW_nm];decide),if_pos (isC_yes cl)];simp only [List.tail_cons,List.append_assoc,nI,nJ];rw [read_args hl];rfl
theorem nmd_call {l:List Ex} (hl:∀ x∈l,Fine x) (cl:List UInt8):nmdP ln (nmT cl l2::(arL m l2 l++u)) = .ok (stm 5 ln [] [] cl ty0 l) u:=by
 unfold nmdP arL;rw [nI,if_pos (isC_yes cl)];simp only [List.tail_cons,List.append_assoc,nI,nJ];rw [read_args hl];rfl
theorem isC_sgn (nm s:List UInt8) (hs:s≠[40]):isC (nmT nm ln::sgn s l2::u)=false:=by
 unfold isC;rw [isK_nm,List.tail_cons,isS_sgn,decide_eq_false hs];rfl
theorem nmd_set (nm:List UInt8):nmdP ln (nmT nm l2::sgn [61] l2::u)=setP ln nm u:=by
 unfold nmdP;rw [if_neg (by rw [isC_sgn _ _ (by decide)];decide),take_n,if_neg (by rw [isS_sgn];decide),if_neg (by rw [isS_sgn];decide),take_s];rfl
theorem nmd_elem {x y:Ex} (hx:Fine x) (hy:Fine y) (nm:List UInt8):nmdP ln (nmT nm l2::sgn [91] l2::(x.kl m l2++sgn [93] l2::sgn [61] l2::(y.kl m l2++sgn [59] l0::u))) = .ok (stm 3 ln nm [] [] ty0 [x,y]) (sgn [59] l0::u):=by
 unfold nmdP;rw [if_neg (by rw [isC_sgn _ _ (by decide)];decide),take_n,if_pos (by rw [isS_sgn];rfl),List.tail_cons,read_to hx [93] (by decide) (by decide) (by decide),R.bind_ok,take_s,take_s,read_to hy [59] (by decide) (by decide) (by decide)];rfl
theorem nmd_field {x:Ex} (hx:Fine x) (nm fl:List UInt8):nmdP ln (nmT nm l2::sgn [46] l2::nmT fl l2::sgn [61] l2::(x.kl m l2++sgn [59] l0::u)) = .ok (stm 4 ln nm fl [] ty0 [x]) (sgn [59] l0::u):=by
 unfold nmdP;rw [if_neg (by rw [isC_sgn _ _ (by decide)];decide),take_n,if_neg (by rw [isS_sgn];decide),if_pos (by rw [isS_sgn];rfl),List.tail_cons,take_n,take_s,read_to hx [59] (by decide) (by decide) (by decide)];rfl
theorem sta_nm (n:Nat) (nm:List UInt8):staR n (nmT nm ln::u)=(nmdP ln (nmT nm ln::u)).bind semi:=by
 unfold staR;rw [if_neg (by rw [isW_nm];decide),if_neg (by rw [isW_nm];decide),if_neg (by rw [isW_nm];decide),if_neg (by rw [isW_nm];decide),if_neg (by rw [isW_nm];decide)];rfl
def noE (u:List To):Prop:=¬ isW wElse u=true
theorem st_head {s:St} (hs:FineS s):(∃ w r,w≠wElse∧(stL m l0 s).1=wrd w (l0+1)::r)∨∃ nm r,(stL m l0 s).1=nmT nm (l0+1)::r:=by
 cases hs with
 | var ln nm ty ht=>exact .inl ⟨wVar,_,by decide,by rw [stL];rfl⟩
 | vari ln nm ty x ht hx=>exact .inl ⟨wVar,_,by decide,by rw [stL];rfl⟩
 | set ln nm x hx=>exact .inr ⟨nm,_,by rw [stL];rfl⟩
 | elem ln nm x y hx hy=>exact .inr ⟨nm,_,by rw [stL];rfl⟩
 | field ln nm fl x hx=>exact .inr ⟨nm,_,by rw [stL];rfl⟩
 | call ln nm cl l hl=>
  right;rw [stL];by_cases h:nm=[]
  · subst h;exact ⟨cl,_,rfl⟩
  · refine ⟨nm,sgn [61] (l0+1)::nmT cl (l0+1)::(arL m (l0+1) l++[sgn [59] (l0+1)]),?_⟩;show (if nm=[] then [] else [nmT nm (l0+1),sgn [61] (l0+1)])++_=_;rw [if_neg h];rfl
 | ifs ln x bd el hx hb he=>
  refine .inl ⟨wIf,?_⟩;rw [stL];by_cases h:el=[]
  · subst h;exact ⟨_,by decide,rfl⟩
  · simp only [if_neg h];exact ⟨_,by decide,rfl⟩
 | fors ln x bd hx hb=>exact .inl ⟨wFor,_,by decide,by rw [stL];rfl⟩
 | print ln x hx=>exact .inl ⟨wPrint,_,by decide,by rw [stL];rfl⟩
 | input ln nm=>exact .inr ⟨nm,_,by rw [stL];rfl⟩
 | ret ln=>exact .inl ⟨wReturn,_,by decide,by rw [stL];rfl⟩
 | reti ln x hx=>exact .inl ⟨wReturn,_,by decide,by rw [stL];rfl⟩
theorem st_noE {s:St} (hs:FineS s) (u:List To):noE ((stL m l0 s).1++u):=by
 unfold noE;rcases st_head (m:=m) (l0:=l0) hs with ⟨w,r,hw,e⟩ | ⟨nm,r,e⟩<;>rw [e,nI]
 · rw [isW_wr,decide_eq_false hw];decide
 · rw [isW_nm];decide
theorem st_noB {s:St} (hs:FineS s) (u:List To):¬ isS [125] ((stL m l0 s).1++u)=true:=by
 rcases st_head (m:=m) (l0:=l0) hs with ⟨w,r,hw,e⟩ | ⟨nm,r,e⟩<;>rw [e,nI]
 · rw [isS_wr];decide
 · rw [isS_nm];decide
end
mutual
theorem read_st (m:Nat):∀ (s:St),FineS s→∀ (n:Nat) (l0:Int) (u:List To),noE u→staP n ((stL m l0 s).1++u) ≠ .out→staP n ((stL m l0 s).1++u) = .ok (stL m l0 s).2.1 u
 | .mk kd ln0 nm fl cl ty ks bd el,hs,n,l0,u,hu,ho=>by
  obtain ⟨n,rfl⟩:∃ k,n=k+1:=⟨n - 1,by
   rcases n with _ | n
   · exact absurd rfl ho
   · rfl⟩
  rw [sta_eq] at ho ⊢;cases hs with
  | var _ _ _ ht=>
   rw [stL];show staR n (wrd wVar (l0+1)::nmT nm (l0+1)::(tyL (l0+1) ty++([]++[sgn [59] (l0+1)]))++u)=_;simp only [nI,List.append_assoc,nJ];unfold staR;rw [if_pos (by rw [isW_wr];rfl),List.tail_cons];unfold varP;rw [take_n,read_ty ht,R.bind_ok,if_neg (by rw [isS_sgn];decide),R.bind_ok,semi_s];rfl
  | vari _ _ _ x ht hx=>
   rw [stL];show staR n (wrd wVar (l0+1)::nmT nm (l0+1)::(tyL (l0+1) ty++((sgn [61] (l0+1)::([x].map (Ex.kl m (l0+1))).flatten)++[sgn [59] (l0+1)]))++u)=_;simp only [nI,List.append_assoc,nJ,List.map_cons,List.map_nil,List.flatten_cons,List.flatten_nil,List.append_nil];unfold staR;rw [if_pos (by rw [isW_wr];rfl),List.tail_cons];unfold varP;rw [take_n,read_ty ht,R.bind_ok,if_pos (by rw [isS_sgn];rfl),List.tail_cons,read_to hx [59] (by decide) (by decide) (by decide),R.bind_ok,R.bind_ok,semi_s];rfl
  | set _ _ x hx=>
   rw [stL];show staR n (nmT nm (l0+1)::sgn [61] (l0+1)::(([x].map (Ex.kl m (l0+1))).flatten++[sgn [59] (l0+1)])++u)=_;simp only [nI,List.append_assoc,nJ,List.map_cons,List.map_nil,List.flatten_cons,List.flatten_nil,List.append_nil];rw [sta_nm,nmd_set,set_exp hx,R.bind_ok,semi_s];rfl
  | elem _ _ x y hx hy=>
   rw [stL];show staR n (nmT nm (l0+1)::sgn [91] (l0+1)::((([x,y].take 1).map (Ex.kl m (l0+1))).flatten++sgn [93] (l0+1)::sgn [61] (l0+1)::((([x,y].drop 1).map (Ex.kl m (l0+1))).flatten++[sgn [59] (l0+1)]))++u)=_;simp only [List.take_succ_cons,List.take_zero,List.drop_succ_cons,List.drop_zero,nI,List.append_assoc,nJ,List.map_cons,List.map_nil,List.flatten_cons,List.flatten_nil,List.append_nil];rw [sta_nm,nmd_elem hx hy,R.bind_ok,semi_s];rfl
  | field _ _ _ x hx=>
   rw [stL];show staR n (nmT nm (l0+1)::sgn [46] (l0+1)::nmT fl (l0+1)::sgn [61] (l0+1)::(([x].map (Ex.kl m (l0+1))).flatten++[sgn [59] (l0+1)])++u)=_;simp only [nI,List.append_assoc,nJ,List.map_cons,List.map_nil,List.flatten_cons,List.flatten_nil,List.append_nil];rw [sta_nm,nmd_field hx,R.bind_ok,semi_s];rfl
  | call _ _ _ _ hl=>
   rw [stL];show staR n ((if nm=[] then [] else [nmT nm (l0+1),sgn [61] (l0+1)])++nmT cl (l0+1)::(arL m (l0+1) ks++[sgn [59] (l0+1)])++u)=_;by_cases h:nm=[]
   · subst h;rw [if_pos rfl];simp only [nI,List.append_assoc,nJ];rw [sta_nm,nmd_call hl,R.bind_ok,semi_s];rfl
   · rw [if_neg h];simp only [nI,List.append_assoc,nJ];rw [sta_nm,nmd_set,set_call hl,R.bind_ok,semi_s];rfl
  | ifs _ x _ _ hx hb he=>
   rw [stL] at ho ⊢;by_cases h:el=[]
   · subst h;have e1:(wrd wIf (l0+1)::(([x].map (Ex.kl m (l0+1))).flatten++sgn [123] (l0+1)::((stsL m (l0+1) bd).1++[sgn [125] (stsL m (l0+1) bd).2.2]))++u)=wrd wIf (l0+1)::(x.kl m (l0+1)++sgn [123] (l0+1)::((stsL m (l0+1) bd).1++sgn [125] (stsL m (l0+1) bd).2.2::u)):=by
      simp only [nI,List.append_assoc,nJ,List.map_cons,List.map_nil,List.flatten_cons,List.flatten_nil,List.append_nil]
     replace ho:staR n (wrd wIf (l0+1)::(([x].map (Ex.kl m (l0+1))).flatten++sgn [123] (l0+1)::((stsL m (l0+1) bd).1++[sgn [125] (stsL m (l0+1) bd).2.2]))++u) ≠ .out:=ho
     show staR n (wrd wIf (l0+1)::(([x].map (Ex.kl m (l0+1))).flatten++sgn [123] (l0+1)::((stsL m (l0+1) bd).1++[sgn [125] (stsL m (l0+1) bd).2.2]))++u) = .ok (.mk 6 (l0+1) [] [] [] ty0 [x] (stsL m (l0+1) bd).2.1 []) u;rw [e1] at ho ⊢;unfold staR at ho ⊢;rw [if_neg (by rw [isW_wr];decide),if_pos (by rw [isW_wr];rfl),List.tail_cons,read_to hx [123] (by decide) (by decide) (by decide),R.bind_ok] at ho ⊢;rw [read_blk m bd hb n _ _ _ _ (R.bind_ne ho),R.bind_ok,if_neg hu];rfl
   · have e1:(wrd wIf (l0+1)::(([x].map (Ex.kl m (l0+1))).flatten++sgn [123] (l0+1)::((stsL m (l0+1) bd).1++sgn [125] (stsL m (l0+1) bd).2.2::wrd wElse (stsL m (l0+1) bd).2.2::sgn [123] (stsL m (l0+1) bd).2.2::((stsL m (stsL m (l0+1) bd).2.2 el).1++[sgn [125] (stsL m (stsL m (l0+1) bd).2.2 el).2.2])))++u)
      = wrd wIf (l0+1)::(x.kl m (l0+1)++sgn [123] (l0+1)::((stsL m (l0+1) bd).1++sgn [125] (stsL m (l0+1) bd).2.2::wrd wElse (stsL m (l0+1) bd).2.2::sgn [123] (stsL m (l0+1) bd).2.2::((stsL m (stsL m (l0+1) bd).2.2 el).1++sgn [125] (stsL m (stsL m (l0+1) bd).2.2 el).2.2::u))):=by
      simp only [nI,List.append_assoc,nJ,List.map_cons,List.map_nil,List.flatten_cons,List.flatten_nil,List.append_nil]
     simp only [if_neg h] at ho ⊢
     replace ho:staR n (wrd wIf (l0+1)::(([x].map (Ex.kl m (l0+1))).flatten++sgn [123] (l0+1)::((stsL m (l0+1) bd).1++sgn [125] (stsL m (l0+1) bd).2.2::wrd wElse (stsL m (l0+1) bd).2.2::sgn [123] (stsL m (l0+1) bd).2.2::((stsL m (stsL m (l0+1) bd).2.2 el).1++[sgn [125] (stsL m (stsL m (l0+1) bd).2.2 el).2.2])))++u) ≠ .out:=ho
     show staR n (wrd wIf (l0+1)::(([x].map (Ex.kl m (l0+1))).flatten++sgn [123] (l0+1)::((stsL m (l0+1) bd).1++sgn [125] (stsL m (l0+1) bd).2.2::wrd wElse (stsL m (l0+1) bd).2.2::sgn [123] (stsL m (l0+1) bd).2.2::((stsL m (stsL m (l0+1) bd).2.2 el).1++[sgn [125] (stsL m (stsL m (l0+1) bd).2.2 el).2.2])))++u) = .ok (.mk 6 (l0+1) [] [] [] ty0 [x] (stsL m (l0+1) bd).2.1 (stsL m (stsL m (l0+1) bd).2.2 el).2.1) u;rw [e1] at ho ⊢;unfold staR at ho ⊢;rw [if_neg (by rw [isW_wr];decide),if_pos (by rw [isW_wr];rfl),List.tail_cons,read_to hx [123] (by decide) (by decide) (by decide),R.bind_ok] at ho ⊢;have q:=read_blk m bd hb n _ _ _ _ (R.bind_ne ho);rw [q,R.bind_ok,if_pos (by rw [isW_wr];rfl),List.tail_cons] at ho ⊢;rw [read_blk m el he n _ _ _ _ (R.bind_ne ho),R.bind_ok];rfl
  | fors _ x _ hx hb=>
   rw [stL] at ho ⊢;have e1:(wrd wFor (l0+1)::(([x].map (Ex.kl m (l0+1))).flatten++sgn [123] (l0+1)::((stsL m (l0+1) bd).1++[sgn [125] (stsL m (l0+1) bd).2.2]))++u)=wrd wFor (l0+1)::(x.kl m (l0+1)++sgn [123] (l0+1)::((stsL m (l0+1) bd).1++sgn [125] (stsL m (l0+1) bd).2.2::u)):=by
    simp only [nI,List.append_assoc,nJ,List.map_cons,List.map_nil,List.flatten_cons,List.flatten_nil,List.append_nil]
   replace ho:staR n (wrd wFor (l0+1)::(([x].map (Ex.kl m (l0+1))).flatten++sgn [123] (l0+1)::((stsL m (l0+1) bd).1++[sgn [125] (stsL m (l0+1) bd).2.2]))++u) ≠ .out:=ho
   show staR n (wrd wFor (l0+1)::(([x].map (Ex.kl m (l0+1))).flatten++sgn [123] (l0+1)::((stsL m (l0+1) bd).1++[sgn [125] (stsL m (l0+1) bd).2.2]))++u) = .ok (.mk 7 (l0+1) [] [] [] ty0 [x] (stsL m (l0+1) bd).2.1 []) u;rw [e1] at ho ⊢;unfold staR at ho ⊢;rw [if_neg (by rw [isW_wr];decide),if_neg (by rw [isW_wr];decide),if_pos (by rw [isW_wr];rfl),List.tail_cons,read_to hx [123] (by decide) (by decide) (by decide),R.bind_ok] at ho ⊢;rw [read_blk m bd hb n _ _ _ _ (R.bind_ne ho),R.bind_ok];rfl
  | print _ x hx=>
   rw [stL];show staR n (wrd wPrint (l0+1)::sgn [40] (l0+1)::(([x].map (Ex.kl m (l0+1))).flatten++[sgn [41] (l0+1),sgn [59] (l0+1)])++u)=_;simp only [nI,List.append_assoc,nJ,List.map_cons,List.map_nil,List.flatten_cons,List.flatten_nil,List.append_nil];unfold staR;rw [if_neg (by rw [isW_wr];decide),if_neg (by rw [isW_wr];decide),if_neg (by rw [isW_wr];decide),if_pos (by rw [isW_wr];rfl),List.tail_cons];rw [sgS_bind,take_s,read_to hx [41] (by decide) (by decide) (by decide),R.bind_ok,sgS_bind,take_s,semi_s];rfl
  | input=>
   rw [stL];show staR n ([nmT nm (l0+1),sgn [61] (l0+1),wrd wInput (l0+1),sgn [40] (l0+1),sgn [41] (l0+1),sgn [59] (l0+1)]++u)=_;simp only [nI,nJ];rw [sta_nm,nmd_set,set_input,R.bind_ok,semi_s];rfl
  | ret=>
   rw [stL];show staR n (wrd wReturn (l0+1)::([]++[sgn [59] (l0+1)])++u)=_;simp only [nI,nJ];unfold staR;rw [if_neg (by rw [isW_wr];decide),if_neg (by rw [isW_wr];decide),if_neg (by rw [isW_wr];decide),if_neg (by rw [isW_wr];decide),if_pos (by rw [isW_wr];rfl),List.tail_cons,if_pos (by rw [isS_sgn];rfl),semi_s];rfl
  | reti _ x hx=>
   rw [stL];show staR n (wrd wReturn (l0+1)::(([x].map (Ex.kl m (l0+1))).flatten++[sgn [59] (l0+1)])++u)=_;simp only [nI,List.append_assoc,nJ,List.map_cons,List.map_nil,List.flatten_cons,List.flatten_nil,List.append_nil];unfold staR;rw [if_neg (by rw [isW_wr];decide),if_neg (by rw [isW_wr];decide),if_neg (by rw [isW_wr];decide),if_neg (by rw [isW_wr];decide),if_pos (by rw [isW_wr];rfl),List.tail_cons,if_neg (by rw [kl_isS hx (by decide)];decide),read_to hx [59] (by decide) (by decide) (by decide),R.bind_ok,semi_s];rfl
theorem read_blk (m:Nat):∀ (l:List St),(∀ s∈l,FineS s)→∀ (n:Nat) (l0 l1 l2:Int) (u:List To),blkP n (sgn [123] l1::((stsL m l0 l).1++sgn [125] l2::u)) ≠ .out→blkP n (sgn [123] l1::((stsL m l0 l).1++sgn [125] l2::u)) = .ok (stsL m l0 l).2.1 u
 | l,hl,n,l0,l1,l2,u,ho=>by
  obtain ⟨n,rfl⟩:∃ k,n=k+1:=⟨n - 1,by
   rcases n with _ | n
   · exact absurd rfl ho
   · rfl⟩
  rw [blkP,take_s] at ho ⊢;exact read_lst m l hl n l0 l2 u ho
theorem read_lst (m:Nat):∀ (l:List St),(∀ s∈l,FineS s)→∀ (n:Nat) (l0 l2:Int) (u:List To),lstP n ((stsL m l0 l).1++sgn [125] l2::u) ≠ .out→lstP n ((stsL m l0 l).1++sgn [125] l2::u) = .ok (stsL m l0 l).2.1 u
 | [],_,n,l0,l2,u,ho=>by
  obtain ⟨n,rfl⟩:∃ k,n=k+1:=⟨n - 1,by
   rcases n with _ | n
   · exact absurd rfl ho
   · rfl⟩
  rw [stsL,lstP];show (if isS [125] (sgn [125] l2::u)=true then R.ok [] u else _)=_;rw [if_pos (by rw [isS_sgn];rfl)]
 | s::l,hl,n,l0,l2,u,ho=>by
  obtain ⟨n,rfl⟩:∃ k,n=k+1:=⟨n - 1,by
   rcases n with _ | n
   · exact absurd rfl ho
   · rfl⟩
  have hs:=hl s (by simp);have e:(stsL m l0 (s::l)).1++sgn [125] l2::u=(stL m l0 s).1++((stsL m (stL m l0 s).2.2 l).1++sgn [125] l2::u):=by rw [stsL,List.append_assoc]
  have e2:(stsL m l0 (s::l)).2.1=(stL m l0 s).2.1::(stsL m (stL m l0 s).2.2 l).2.1:=by rw [stsL]
  rw [e] at ho ⊢;rw [e2];rw [lstP,if_neg (st_noB hs _)] at ho ⊢;have hn:noE ((stsL m (stL m l0 s).2.2 l).1++sgn [125] l2::u):=by
   cases l with
   | nil=>
    rw [stsL];show ¬ isW wElse (sgn [125] l2::u)=true;rw [isW_sgn];decide
   | cons t l=>
    rw [stsL,List.append_assoc];exact st_noE (hl t (by simp)) _
  have q:=read_st m s hs n l0 _ hn (R.bind_ne ho);rw [q,R.bind_ok] at ho ⊢;rw [read_lst m l (fun t ht=>hl t (List.mem_cons_of_mem _ ht)) n _ _ _ (R.bind_ne ho),R.bind_ok]
end
end Go.Proofs.Ytflhcdcifilfcaa

namespace Go.Proofs.Ytflhcdcifilfcaa
open Go

def scL (ln:Int) (s:Sc):List To:=wrd wType ln::nmT s.nm ln::wrd wStruct ln::sgn [123] ln::((s.fs.map fun f=>[nmT f ln,wrd wInt ln,sgn [59] ln]).flatten++[sgn [125] ln])
def pmL (ln:Int) (p:Pm):List To:=nmT p.nm ln::tyL ln p.ty
def pmsL (ln:Int):List Pm→List To
 | []=>[]
 | [x]=>pmL ln x
 | x::y::l=>pmL ln x++sgn [44] ln::pmsL ln (y::l)
def dcL (m:Nat) (l0:Int) (d:Dc):List To×Dc×Int:=
 let ln:=l0+1
 let b:=stsL m ln d.bd
 (wrd wFunc ln::nmT d.nm ln::sgn [40] ln::(pmsL ln d.ps++sgn [41] ln::((if d.rs.kd=0 then [] else tyL ln d.rs)++sgn [123] ln::(b.1++[sgn [125] b.2.2]))),⟨d.nm,ln,d.ps,d.rs,b.2.1⟩,b.2.2)
def dcsL (m:Nat) (l0:Int):List Dc→List To×List Dc×Int
 | []=>([],[],l0)
 | d::l=>
  let a:=dcL m l0 d
  let b:=dcsL m a.2.2 l
  (a.1++b.1,a.2.1::b.2.1,b.2.2)
def pgL (m:Nat) (p:Pg):List To×Pg:=((p.ss.map (scL 1)).flatten++(dcsL m 1 p.fs).1,⟨p.ss,(dcsL m 1 p.fs).2.1⟩)
def FineD (d:Dc):Prop:=(∀ p∈d.ps,FineT p.ty)∧(d.rs=ty0∨FineT d.rs)∧∀ s∈d.bd,FineS s
def FineP (p:Pg):Prop:=∀ d∈p.fs,FineD d
section
variable {m:Nat} {ln l0 l2:Int} {u:List To}
theorem read_fld:∀ (fs:List (List UInt8)) (n:Nat),fs.length < n→fldP n ((fs.map fun f=>[nmT f ln,wrd wInt ln,sgn [59] ln]).flatten++sgn [125] l2::u) = .ok fs u
 | [],n,hn=>by
  obtain ⟨k,rfl⟩:=Nat.exists_eq_succ_of_ne_zero (show n≠0 by omega);rw [Nat.succ_eq_add_one,fldP,List.map_nil,List.flatten_nil,nJ,if_pos (by rw [isS_sgn];rfl)];rfl
 | f::fs,n,hn=>by
  obtain ⟨k,rfl⟩:=Nat.exists_eq_succ_of_ne_zero (show n≠0 by omega);rw [Nat.succ_eq_add_one,fldP,List.map_cons,List.flatten_cons];simp only [nI,nJ];rw [if_neg (by rw [isS_nm];decide),take_n,take_w,take_s,read_fld fs k (by rw [nF] at hn;omega)];rfl
theorem read_sc (s:Sc):scP (scL ln s++u) = .ok s u:=by
 unfold scL scP;simp only [nI,List.append_assoc,nJ]
 rw [take_w,take_n,take_w,take_s,read_fld s.fs _ (by
  have:s.fs.length≤((s.fs.map fun f=>[nmT f ln,wrd wInt ln,sgn [59] ln]).flatten).length:=by
   generalize s.fs=l;induction l with
   | nil=>exact Nat.zero_le _
   | cons f l ih=>
    rw [List.map_cons,List.flatten_cons,nH,nF];simp only [nF,nG];omega
  rw [nH]
  omega)]
 rfl
theorem read_pm {p:Pm} (h:FineT p.ty):pmP (pmL ln p++u) = .ok p u:=by
 unfold pmL pmP;rw [nI,take_n,read_ty h];rfl
theorem pms_len:∀ (l:List Pm),l.length≤(pmsL ln l).length
 | []=>Nat.zero_le _
 | [x]=>by rw [pmsL,pmL];simp
 | x::y::l=>by
  have:=pms_len (y::l);rw [pmsL,pmL,nH];simp only [nF] at this ⊢;omega
theorem read_pms:∀ (l:List Pm),l≠[]→(∀ x∈l,FineT x.ty)→∀ n,l.length≤n→comP pmP n (pmsL ln l++sgn [41] l2::u) = .ok l u
 | [],h,_,_,_=>absurd rfl h
 | [x],_,hf,n,hn=>by
  obtain ⟨k,rfl⟩:=Nat.exists_eq_succ_of_ne_zero (show n≠0 by rw [List.length_singleton] at hn;omega);rw [Nat.succ_eq_add_one,comP,pmsL,read_pm (hf x (by simp)),R.bind_ok,if_neg (by rw [isS_sgn];decide),take_s]
 | x::y::l,_,hf,n,hn=>by
  obtain ⟨k,rfl⟩:=Nat.exists_eq_succ_of_ne_zero (show n≠0 by rw [nF] at hn;omega)
  rw [Nat.succ_eq_add_one,comP,pmsL,List.append_assoc,nI,read_pm (hf x (by simp)),R.bind_ok,if_pos (by rw [isS_sgn];rfl),List.tail_cons,
   read_pms (y::l) (by simp) (fun z hz=>hf z (List.mem_cons_of_mem _ hz)) k (by rw [nF] at hn ⊢;rw [nF] at hn;omega),R.bind_ok]
theorem read_ps {l:List Pm} (hf:∀ x∈l,FineT x.ty):lisP pmP (pmsL ln l++sgn [41] l2::u) = .ok l u:=by
 unfold lisP;cases l with
 | nil=>
  rw [pmsL,nJ,if_pos (by rw [isS_sgn];rfl)];rfl
 | cons x l=>
  have h0:isS [41] (pmsL ln (x::l)++sgn [41] l2::u)=false:=by
   cases l with
   | nil=>rw [pmsL,pmL,nI,isS_nm]
   | cons y l=>rw [pmsL,pmL,nI,nI,isS_nm]
  rw [if_neg (by rw [h0];decide)];refine read_pms _ (by simp) hf _ ?_;have:=pms_len (ln:=ln) (x::l);rw [nH];omega
theorem read_rs {t:Ty} (ht:t=ty0∨FineT t):rsP ((if t.kd=0 then [] else tyL ln t)++sgn [123] l2::u) = .ok t (sgn [123] l2::u):=by
 rcases ht with rfl | ht
 · rw [if_pos (show ty0.kd=0 from rfl),nJ];unfold rsP;rw [if_pos (by rw [isS_sgn];rfl)]
 · have h0:¬ t.kd=0:=by
    cases ht with
    | int=>exact (by decide:¬ (1:Int)=0)
    | bool=>exact (by decide:¬ (2:Int)=0)
    | arr n hn=>exact (by decide:¬ (3:Int)=0)
    | name nm=>exact (by decide:¬ (4:Int)=0)
   rw [if_neg h0];unfold rsP;have h1:isS [123] (tyL ln t++sgn [123] l2::u)=false:=by
    cases ht with
    | int=>show isS [123] (wrd wInt ln::_)=false;rw [isS_wr]
    | bool=>show isS [123] (wrd wBool ln::_)=false;rw [isS_wr]
    | arr n hn=>show isS [123] (sgn [91] ln::_)=false;rw [isS_sgn];rfl
    | name nm=>show isS [123] (nmT nm ln::_)=false;rw [isS_nm]
   rw [if_neg (by rw [h1];decide),read_ty ht]
theorem read_dc {d:Dc} (hd:FineD d):dcP ((dcL m l0 d).1++u) = .ok (dcL m l0 d).2.1 u:=by
 have hne:=blP_ne (sgn [123] (l0+1)::((stsL m (l0+1) d.bd).1++sgn [125] (stsL m (l0+1) d.bd).2.2::u));unfold dcL dcP;simp only [nI,List.append_assoc,nJ];rw [take_w,take_n,take_s,read_ps hd.1,R.bind_ok,read_rs hd.2.1,R.bind_ok];unfold blP at hne ⊢;rw [read_blk m d.bd hd.2.2 _ _ _ _ _ hne];rfl
theorem read_dcs:∀ (l:List Dc),(∀ d∈l,FineD d)→∀ (n:Nat) (l0:Int) (x:Pg),(dcsL m l0 l).1.length < n→pgP n x (dcsL m l0 l).1 = .ok ⟨x.ss,x.fs++(dcsL m l0 l).2.1⟩ []
 | [],_,n,l0,x,hn=>by
  obtain ⟨k,rfl⟩:=Nat.exists_eq_succ_of_ne_zero (show n≠0 by omega);rw [Nat.succ_eq_add_one,pgP,dcsL];show (if ([]:List To)=[] then R.ok x [] else _)=R.ok (⟨x.ss,x.fs++[]⟩:Pg) [];rw [if_pos rfl,List.append_nil]
 | d::l,hl,n,l0,x,hn=>by
  obtain ⟨k,rfl⟩:=Nat.exists_eq_succ_of_ne_zero (show n≠0 by omega);have e:(dcsL m l0 (d::l)).1=(dcL m l0 d).1++(dcsL m (dcL m l0 d).2.2 l).1:=by rw [dcsL]
  have e2:(dcsL m l0 (d::l)).2.1=(dcL m l0 d).2.1::(dcsL m (dcL m l0 d).2.2 l).2.1:=by rw [dcsL]
  have hr:=read_dc (m:=m) (l0:=l0) (u:=(dcsL m (dcL m l0 d).2.2 l).1) (hl d (by simp));have hlen:=dcP_len hr;have h1:(dcL m l0 d).1++(dcsL m (dcL m l0 d).2.2 l).1≠[]:=fun q=>by rw [q] at hlen;simp at hlen
  have h2:¬ isW wType ((dcL m l0 d).1++(dcsL m (dcL m l0 d).2.2 l).1)=true:=by
   unfold dcL;simp only [nI];rw [isW_wr];decide
  rw [e] at hn ⊢;rw [e2,Nat.succ_eq_add_one,pgP,if_neg h1,if_neg h2,hr,R.bind_ok,read_dcs l (fun z hz=>hl z (List.mem_cons_of_mem _ hz)) k _ _ (by omega),List.append_assoc];rfl
theorem read_scs:∀ (ss:List Sc) (n:Nat) (x:Pg) (u:List To) (y:Pg),((ss.map (scL ln)).flatten++u).length < n→(∀ k,u.length < k→pgP k ⟨x.ss++ss,x.fs⟩ u = .ok y [])→pgP n x ((ss.map (scL ln)).flatten++u) = .ok y []
 | [],n,x,u,y,hn,h=>by
  rw [List.map_nil,List.flatten_nil,nJ] at hn ⊢;have:=h n hn
  rwa [List.append_nil] at this
 | s::ss,n,x,u,y,hn,h=>by
  obtain ⟨k,rfl⟩:=Nat.exists_eq_succ_of_ne_zero (show n≠0 by omega);have e:((s::ss).map (scL ln)).flatten++u=scL ln s++((ss.map (scL ln)).flatten++u):=by rw [List.map_cons,List.flatten_cons,List.append_assoc]
  have hr:=read_sc (ln:=ln) (u:=(ss.map (scL ln)).flatten++u) s;have hlen:=scP_len hr;have h1:scL ln s++((ss.map (scL ln)).flatten++u)≠[]:=fun q=>by rw [q] at hlen;simp at hlen
  have h2:isW wType (scL ln s++((ss.map (scL ln)).flatten++u))=true:=by
   unfold scL;simp only [nI];rw [isW_wr];rfl
  rw [e] at hn ⊢;rw [Nat.succ_eq_add_one,pgP,if_neg h1,if_pos h2,hr,R.bind_ok];refine read_scs ss k _ u y (by omega) fun q hq=>?_
  have:=h q hq
  rwa [show x.ss++s::ss=x.ss++[s]++ss by simp] at this
theorem read_pg (m:Nat) {p:Pg} (hp:FineP p):proP (pgL m p).1 = .ok (pgL m p).2 []:=by
 unfold proP pgL;refine read_scs p.ss _ _ _ _ (Nat.lt_succ_self _) fun k hk=>?_
 have:=read_dcs (m:=m) p.fs hp k 1 ⟨[]++p.ss,[]⟩ hk;simpa using this
end
end Go.Proofs.Ytflhcdcifilfcaa
