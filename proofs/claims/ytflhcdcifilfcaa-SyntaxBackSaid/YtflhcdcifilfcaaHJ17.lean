/-
  Merged for a claim: S3M, S3N, S1O, TKB, S1J, VKD, VKE, VKF, VKG, VKH, VKI, R0A, VCA, VCB, VCC.
-/
import Derived.Test.YtflhcdcifilfcaaHJ14
import Derived.Test.YtflhcdcifilfcaaHJ16
import Derived.Deep.CutRange
import Derived.Test.YtflhcdcifilfcaaHJ15
import Derived.Test.YtflhcdcifilfcaaHJ2
import Derived.KernelRfl
import Derived.Test.YtflhcdcifilfcaaHJ3
import Derived.Test.YtflhcdcifilfcaaProg
import Derived.Maps.OwnSet
import Derived.WalkKit
import Derived.Test.YtflhcdcifilfcaaHJ6
import Derived.WalkMore
import Derived.Test.YtflhcdcifilfcaaHJ1
import Derived.Deep.QuietTactic
import Derived.BigQuiet
namespace Go.Proofs.Ytflhcdcifilfcaa
open Go Go.RowKit

section
variable {w W Z:World} {gp gs:Nat} {A:Option Addr} {c:Nat} {l u u':List To} {fl f':Bool} {vS vF vc v:Value} {ss ss2:List ScM} {fs fs2:List DcM}
end
end Go.Proofs.Ytflhcdcifilfcaa

namespace Go.Proofs.Ytflhcdcifilfcaa
open Go.ChangeShapes Go.WideShapes Go.ChangeAt Go.Deep
open Go Go.RowKit

section
variable {w W:World}
end
end Go.Proofs.Ytflhcdcifilfcaa

namespace Go.Proofs.Ytflhcdcifilfcaa
open Go Go.RowKit

theorem map_len {α β γ:Type} {f:α→γ} {g:β→γ} {l:List α} {k:List β} (h:l.map f=k.map g):k.length=l.length:=by
 have:=congrArg List.length h;rw [List.length_map,List.length_map] at this;exact this.symm
theorem map_at {α β γ:Type} {f:α→γ} {g:β→γ} {l:List α} {k:List β} (h:l.map f=k.map g) (j:Nat) (hj:j < l.length) (hj2:j < k.length):f l[j]=g k[j]:=by
 have:=congrArg (fun q=>q[j]?) h;simpa [hj,hj2] using this
end Go.Proofs.Ytflhcdcifilfcaa

namespace Go.Proofs.Ytflhcdcifilfcaa
open Go

theorem scan_rest {s:List UInt8} {l:List UInt8} (hs:s≠[]) (hl:l=s++l.drop s.length):(sk false (l.drop s.length)).length < l.length:=by
 have h1:=sk_len false (l.drop s.length);have h2:=List.length_pos_iff.2 hs;have h3:=congrArg List.length hl;rw [List.length_append,List.length_drop] at h3;rw [List.length_drop] at h1;omega
theorem tok_nl {kd:Int} {s:List UInt8} {nu:Int} (h:TokOk kd s nu):∀ x∈s,tBl x=false:=by
 intro x hx;cases hb:tBl x with
 | false=>rfl
 | true=>
  obtain ⟨q1,q2,q3⟩:=bl_cases hb;rcases h.kind with ⟨_,ha,_⟩ | ⟨_,ha,_⟩ | ⟨_,_,_,_,ha,_⟩
  · exact (by rw [ha x hx] at q3;cases q3)
  · exact (by rw [ha x hx] at q2;cases q2)
  · exact (by rw [ha x hx] at hb;cases hb)
theorem nl_zero {s:List UInt8} (h:∀ x∈s,tBl x=false):nl s=0:=by
 unfold nl;rw [List.count_eq_zero];intro hm;have:=h 10 hm;cases this
theorem scan_all (N:Nat):∀ (n:Nat) (l:List UInt8) (ts:List Tk),l.length≤n→scanS N l = .ok ts→(∀ t∈ts,TokOk t.kd t.tx t.nu)∧(ts.map fun t=>t.tx.length).sum≤l.length∧ts.length≤l.length
 | n,[],ts,_,h=>by
  rw [scanS_nil] at h;injection h with h;subst h;simp
 | 0,c::r,_,h,_=>by simp at h
 | n+1,c::r,ts,h,hs=>by
  rcases ht:tok1 (c::r) with _ | ⟨kd,s,nu⟩
  · rw [scanS_none _ (by simp) ht] at hs;cases hs
  · obtain ⟨h1,h2⟩:=tok1_ok ht;rw [scanS_some _ ht] at hs;rcases hq:scanS N (sk false ((c::r).drop s.length)) with e | us
    · rw [hq] at hs;cases hs
    · rw [hq] at hs;injection hs with hs;subst hs;have h3:=scan_rest h1.ne h2;obtain ⟨r1,r2,r3⟩:=scan_all N n _ us (by omega) hq;have h4:=sk_len false ((c::r).drop s.length);have h5:=congrArg List.length h2;rw [List.length_append] at h5;rw [List.length_drop] at h4 h5;have h6:=List.length_pos_iff.2 h1.ne;refine ⟨?_,?_,?_⟩
      · intro t hm;rcases List.mem_cons.1 hm with rfl | hm
        · exact h1
        · exact r1 t hm
      · simp only [List.map_cons,List.sum_cons];omega
      · simp only [List.length_cons] at *;omega
end Go.Proofs.Ytflhcdcifilfcaa

namespace Go.Proofs.Ytflhcdcifilfcaa
open Go

def src1:List UInt8:=[102,117,110,99,32,109,97,105,110,40,41,32,123,32,120,32,61,32,49,32,45,32,50,32,45,32,51,32,42,32,45,121,59,32,125]
def src2:List UInt8:=[102,117,110,99,32,109,97,105,110,40,41,32,123,32,120,32,61,32,102,40,49,41,32,43,32,50,59,32,125]
def toTo (t:Tk):To:=⟨t.kd,t.tx,t.nu,t.ln⟩
def toksP (l:List UInt8):List To:=if 16384 < l.length then [] else match scanP l with
 | .error _=>[]
 | .ok ts=>ts.map toTo
def ex1:Ex:= .mk 7 0 [] [] [45] [.mk 7 0 [] [] [45] [.mk 1 1 [] [] [] [],.mk 1 2 [] [] [] []],.mk 7 0 [] [] [42] [.mk 1 3 [] [] [] [],.mk 6 0 [] [] [45] [.mk 3 0 [121] [] [] []]]]
def dc1:Dc:=⟨[109,97,105,110],1,[],ty0,[stm 2 1 [120] [] [] ty0 [ex1]]⟩
theorem par_src1:parP (toksP src1)=(⟨[],[dc1]⟩,0,0):=by kernel_rfl
theorem par_src2:parP (toksP src2)=(⟨[],[]⟩,11,7):=by kernel_rfl
end Go.Proofs.Ytflhcdcifilfcaa

namespace Go.Proofs.Ytflhcdcifilfcaa
open Go Go.RowKit

theorem drop_len (p:UInt8→Bool) (l:List UInt8):l.drop (l.takeWhile p).length=l.dropWhile p:=by
 induction l with
 | nil=>rfl
 | cons c r ih=>
  rw [List.takeWhile_cons,List.dropWhile_cons];split
  · exact ih
  · rfl
theorem take_le (p:UInt8→Bool) (l:List UInt8):(l.takeWhile p).length≤l.length:=by
 have:=congrArg List.length (List.takeWhile_append_dropWhile (p:=p) (l:=l));rw [List.length_append] at this;omega
end Go.Proofs.Ytflhcdcifilfcaa

namespace Go.Proofs.Ytflhcdcifilfcaa
open Go Go.RowKit Go.Maps Go.WideMaps

end Go.Proofs.Ytflhcdcifilfcaa

namespace Go.Proofs.Ytflhcdcifilfcaa
open Go Go.RowKit

def tokV (kd:Int) (s:List UInt8) (nu ln:Int):Value:= .agg #[.int .u8 kd,.string (str s),.int .i64 nu,.int .i64 ln]
def OneR (l:List UInt8) (w:World) (e:Ending) (w':World):Prop:=
 Below w.heap.size w w'∧∃ kd s nu b,e = .returned (.tuple #[tokV kd s nu 0,.bool b])∧(tok1 l=none∧b=false∨tok1 l=some (kd,s,nu)∧b=true)
theorem tokv_size:(Try.prog.info? 77).map (·.size)=some 4:=by kernel_rfl
theorem tokv_back {fn:Func} {p u:Tmp} (h:fn.results=#[.cell p 77,.tmp u]) {tmps:Array Value} {w:World} {g:Nat} {kd nu ln:Int} {s:List UInt8} {t:TypeId} {fr:Nat×Nat} (hp:tmps.getD p undef = .pointer (some ⟨g,0,none⟩))
 (hg:w.heap[g]? = some (.cells #[.int .u8 kd,.string (str s),.int .i64 nu,.int .i64 ln] t fr)):(results fn tmps).run Try.prog w = .ok (.tuple #[tokV kd s nu ln,tmps.getD u undef]) w:=
 res_row_tmp h tmps w g _ _ _ _ hp hg Try.underlying77 rfl tokv_size
theorem grown_set1 (w:World) (g j:Nat) (v:Value):w.grownBy (w.setCell ⟨g,j,none⟩ v) (some g):=
 ⟨rfl,rfl,rfl,by simp [World.setCell],fun k _ hk=>Below.heap_setCell w ⟨g,j,none⟩ v k (fun e=>hk (by rw [e]))⟩
theorem grown4 (w:World) (g:Nat) (a b c d:Value):w.grownBy ((((w.setCell ⟨g,0,none⟩ a).setCell ⟨g,1,none⟩ b).setCell ⟨g,2,none⟩ c).setCell ⟨g,3,none⟩ d) (some g):=
 (((grown_set1 w g 0 a).trans (grown_set1 _ g 1 b)).trans (grown_set1 _ g 2 c)).trans (grown_set1 _ g 3 d)
theorem take_len (p:UInt8→Bool) (l:List UInt8):l.take (l.takeWhile p).length=l.takeWhile p:=by
 induction l with
 | nil=>rfl
 | cons c r ih=>
  rw [List.takeWhile_cons];split
  · rw [List.length_cons,List.take_succ_cons,ih]
  · rfl
theorem valF_ge:∀ (l:List UInt8) (a:Nat),a≤l.foldl (fun a c=>10*a+(c.toNat - 48)) a
 | [],a=>Nat.le_refl _
 | c::l,a=>by
  have:=valF_ge l (10*a+(c.toNat - 48));rw [List.foldl_cons];omega
theorem digit_range {c:UInt8} (h:tDi c=true):48≤c.toNat∧c.toNat≤57:=by
 have:=of_decide_eq_true h;omega
end Go.Proofs.Ytflhcdcifilfcaa

namespace Go.Proofs.Ytflhcdcifilfcaa
open Go Go.RowKit

theorem not_or3 {a b c:Prop} (ha:¬ a) (hb:¬ b) (hc:¬ c):¬ (a∨b∨c):=fun h=>h.elim ha fun h=>h.elim hb hc
end Go.Proofs.Ytflhcdcifilfcaa

namespace Go.Proofs.Ytflhcdcifilfcaa
open Go Go.RowKit

def signsL:List (List UInt8):=[[40],[41],[123],[125],[91],[93],[44],[59],[46],[61],[43],[45],[42],[47],[37],[33],[38,38],[124,124],[60],[60,61],[62],[62,61],[61,61],[33,61]]
structure Laid (w:World):Prop where
 sg:∀ i (h:i < 24),w.cell? ⟨0,i,none⟩=some (.string (str (signsL[i]'h)))
 er:∃ tp p,w.cell? ⟨3,0,none⟩=some (.iface tp p)
theorem pre_take {s l:List UInt8} (h:s.isPrefixOf l=true):l.take s.length=s:=by
 obtain ⟨t,rfl⟩:=List.isPrefixOf_iff_prefix.1 h;rw [List.take_left]
theorem take_pre (l:List UInt8) (n:Nat):(l.take n).isPrefixOf l=true:=List.isPrefixOf_iff_prefix.2 (List.take_prefix n l)
end Go.Proofs.Ytflhcdcifilfcaa

namespace Go.Proofs.Ytflhcdcifilfcaa
open Go Go.RowKit

def eT:El Tk where
 e:=77
 sz:=4
 f:=fun t=>[.int .u8 t.kd,.string (str t.tx),.int .i64 t.nu,.int .i64 (t.ln:Int)]
 len:=fun _=>rfl
 one:=by
  intro x u hu;simp at hu;rcases hu with rfl | rfl | rfl | rfl<;>rfl
 pos:=by decide
theorem tokv_info:(Try.prog.info? 77).map (fun i=>(i.zero,i.size,i.bytes))=some (some (.agg #[.int .u8 0,.string ⟨#[]⟩,.int .i64 0,.int .i64 0]),4,40):=by kernel_rfl
def ScanR (l:List UInt8) (w:World) (e:Ending) (w':World):Prop:=
 Below w.heap.size w w'∧((16384 < l.length∧e = .returned (.tuple #[.slice none 0 0,.int .i64 0,.int .i64 11]))∨(l.length≤16384∧((∃ k:Nat,scanP l = .error k∧e = .returned (.tuple #[.slice none 0 0,.int .i64 k,.int .i64 6]))∨(∃ ts v,scanP l = .ok ts∧e = .returned (.tuple #[v,.int .i64 0,.int .i64 0])∧eT.Own w' w.heap.size v ts))))
theorem nl_le (l:List UInt8):nl l≤l.length:=List.count_le_length
theorem scan_step {N:Nat} {acc:List Tk} {r:List UInt8} {T:Except Nat (List Tk)} {kd:Int} {s:List UInt8} {nu:Int} (h:appT acc (scanS N r)=T) (ht:tok1 r=some (kd,s,nu)) (hN:nl r≤N) :
 s≠[]∧s.length≤r.length∧appT (acc++[⟨kd,s,nu,N - nl r⟩]) (scanS N (sk false (r.drop s.length)))=T∧(sk false (r.drop s.length)).length < r.length∧nl (sk false (r.drop s.length))≤N∧nl (r.drop s.length)≤1099511627776+N ∧
  N - nl r+(nl (r.drop s.length) - nl (sk false (r.drop s.length)))=N - nl (sk false (r.drop s.length)):=by
 obtain ⟨h1,h2⟩:=tok1_ok ht;have h3:=scan_rest h1.ne h2;have h4:=sk_nl false (r.drop s.length);have h5:nl r=nl (r.drop s.length):=by
  have:=congrArg nl h2;rw [nl_append,nl_zero (tok_nl h1),Nat.zero_add] at this;exact this
 have h6:s.length≤r.length:=by
  have:=congrArg List.length h2;rw [List.length_append] at this;omega
 refine ⟨h1.ne,h6,?_,h3,by omega,by omega,by omega⟩;rw [← h,scanS_some N ht,appT_cons]
end Go.Proofs.Ytflhcdcifilfcaa

namespace Go.Proofs.Ytflhcdcifilfcaa
open Go.RowKit

end Go.Proofs.Ytflhcdcifilfcaa

namespace Go.Proofs.Ytflhcdcifilfcaa
open Go Go.RowKit

theorem sk_drop {l:List UInt8} {j:Nat} (h:j < l.length) (hb:tBl l[j]=true):sk false (l.drop j)=sk false (l.drop (j+1)):=by
 rw [List.drop_eq_getElem_cons h];simp only [sk,hb,if_true]
theorem sk_rem_drop {l:List UInt8} {j:Nat} (h:j < l.length) (h2:j+1 < l.length) (e:l[j]=47) (e2:l[j+1]=47):sk false (l.drop j)=sk true (l.drop j):=by
 rw [List.drop_eq_getElem_cons h,List.drop_eq_getElem_cons h2,e,e2];rfl
theorem skt_drop {l:List UInt8} {j:Nat} (h:j < l.length) (hb:¬ l[j]=10):sk true (l.drop j)=sk true (l.drop (j+1)):=by
 rw [List.drop_eq_getElem_cons h];simp only [sk,hb,if_false]
theorem skt_end {l:List UInt8} {j:Nat} (h:j < l.length) (hb:l[j]=10):sk true (l.drop j)=sk false (l.drop j):=by
 rw [List.drop_eq_getElem_cons h,hb];rfl
theorem sk_here {l:List UInt8} {j:Nat} (h:j < l.length) (hb:tBl l[j]=false) (hr:¬ (l[j]=47∧l[j+1]? = some 47)):sk false (l.drop j)=l.drop j:=by
 rw [List.drop_eq_getElem_cons h];simp only [sk,hb];rw [if_neg (by simp),if_neg];rintro ⟨e,e2⟩;refine hr ⟨e,?_⟩;rw [List.head?_drop] at e2;exact e2
def bp (l:List UInt8) (k:Nat):Nat:=l.length - (sk false (l.drop k)).length
theorem bp_of {l:List UInt8} {k j:Nat} (hj:j≤l.length) (h:sk false (l.drop k)=l.drop j):bp l k=j:=by
 unfold bp;rw [h,List.length_drop];omega
theorem bp_drop {l:List UInt8} {k:Nat} (_hk:k≤l.length):l.drop (bp l k)=sk false (l.drop k)∧bp l k≤l.length∧k≤bp l k:=by
 obtain ⟨u,hu⟩:=sk_suffix false (l.drop k);have h1:=sk_len false (l.drop k);rw [List.length_drop] at h1;have h2:l.length - k=u.length+(sk false (l.drop k)).length:=by
  have:=congrArg List.length hu;rw [List.length_append,List.length_drop] at this;exact this
 have e:bp l k=k+u.length:=by unfold bp;omega
 refine ⟨?_,by unfold bp;omega,by omega⟩;rw [e,← List.drop_drop,hu,List.drop_left];rw [← hu]
set_option maxRecDepth 100000 in
set_option maxHeartbeats 8000000 in
theorem refBlank_any (A:Option Addr) (c:Nat) (l:List UInt8) (k:Nat) (w:World) (hl:Lies w w.heap.size A l) (hn:l.length≤1099511627776) (hk:k≤l.length) :
 Calls Try.prog 26 #[.slice A l.length c,.int .i64 k] w fun e w'=>e = .returned (.int .i64 (bp l k:Nat))∧w=w':=by
 obtain ⟨T,hT⟩:∃ T,sk false (l.drop k)=T:=⟨_,rfl⟩;have HP:=Lib.hid (fun j (hj:j≤l.length) (h:T=l.drop j)=>bp_of (k:=k) hj (hT.trans h));have H0:=Lib.hid (show sk false (l.drop k)=T from hT);clear hT;have hni:(l.length:Int)≤1099511627776:=by omega
 generalize bp l k=R at *;go_enter Try.func26,Try.ntmps26;go_wp2_with fail
 go_loop [1] (fun i=>∃ j:Nat,j≤l.length∧i = .int .i64 j∧Hid (sk false (l.drop j)=T)) (fun i=>l.length - (intOf i).toNat)
 case atStart=>exact ⟨k,hk,rfl,H0⟩
 case round=>
  obtain ⟨j,hj,rfl,HS⟩:=hrel;clear H0;by_cases hlt:j < l.length
  · obtain ⟨g,o,rfl,hg,hcell⟩:=hl.at_ hlt;(have hlti:(j:Int) < (l.length:Int):=by omega);cases hb:tBl l[j]
    · by_cases h47:l[j]=47
      · by_cases hlt2:j+1 < l.length
        · (have hlt2i:(j:Int)+1 < (l.length:Int):=by omega);obtain ⟨g',o',e',hg',hcell2⟩:=hl.at_ hlt2;cases e';by_cases h472:l[j+1]=47
          · have HS2:=Lib.hid (show sk true (l.drop j)=T by rw [← sk_rem_drop hlt hlt2 h47 h472];exact HS.out);rw [h47] at hcell;rw [h472] at hcell2
            replace hcell:w.cell? ⟨g,o+j,none⟩=some (.int .u8 47):=hcell
            replace hcell2:w.cell? ⟨g,o+(j+1),none⟩=some (.int .u8 47):=hcell2
            have hcell3:w.cell? ⟨g,o+j+1,none⟩=some (.int .u8 47):=hcell2;have HN:=Lib.hid (show ¬ l[j]=10 by rw [h47];decide);clear hb h47 h472 HS;go_wp2_with fail
            go_loop [1] (fun i=>∃ m:Nat,j≤m∧m≤l.length∧i = .int .i64 m∧Hid (sk true (l.drop m)=T)) (fun i=>l.length - (intOf i).toNat)
            (case atStart=>exact ⟨j,by omega,by omega,rfl,HS2⟩);case round=>
             obtain ⟨m,hm1,hm2,rfl,HM⟩:=hrel;clear HS2;by_cases hltm:m < l.length
             · obtain ⟨g',o',e',hg',hcm⟩:=hl.at_ hltm;cases e';by_cases h10:l[m]=10
               · have HE:=Lib.hid (show sk false (l.drop m)=T by rw [← skt_end hltm h10];exact HM.out);have hne:m≠j:=by
                  rintro rfl;exact HN.out h10
                 rw [h10] at hcm
                 replace hcm:w.cell? ⟨g,o+m,none⟩=some (.int .u8 10):=hcm
                 clear h10 HM;go_wp2_with fail
                 go_round
                 (case rel=>exact ⟨m,hm2,rfl,HE⟩);case measure=>simp [intOf];omega
               · have HE:=Lib.hid (show sk true (l.drop (m+1))=T by rw [← skt_drop hltm h10];exact HM.out);(have hx2:¬ ((l[m]).toNat:Int)=10:=fun e=>h10 (UInt8.toNat_inj.1 (show (l[m]).toNat=10 by omega)));clear h10 HM;generalize ((l[m]).toNat:Int)=X at *;go_wp2_with fail
                 go_round
                 (case rel=>exact ⟨m+1,by omega,by omega,by go_num,HE⟩);case measure=>simp [intOf];omega
             · (obtain rfl:m=l.length:=by omega);have HE:=Lib.hid (show sk false (l.drop l.length)=T by rw [← HM.out,List.drop_length];rfl);clear HM;go_wp2_with fail
               go_round
               (case rel=>exact ⟨l.length,by omega,rfl,HE⟩);case measure=>simp [intOf];omega
          · have HR:=Lib.hid (show R=j from HP.out j hj (HS.out.symm.trans (sk_here hlt hb fun q=>h472 (by
             have:=q.2;rw [List.getElem?_eq_getElem hlt2] at this
             injection this))))
            (have hx2:¬ ((l[j+1]).toNat:Int)=47:=fun e=>h472 (UInt8.toNat_inj.1 (show (l[j+1]).toNat=47 by omega)));rw [h47] at hcell
            replace hcell:w.cell? ⟨g,o+j,none⟩=some (.int .u8 47):=hcell
            have hcell3:w.cell? ⟨g,o+j+1,none⟩=some (.int .u8 ((l[j+1]).toNat:Int)):=hcell2;clear hb h47 h472 HS HP;generalize ((l[j+1]).toNat:Int)=X at *;(go_wp2_with fail);go_ret;exact ⟨by rw [HR.out];rfl,rfl⟩
        · have hlt2i:¬ (j:Int)+1 < (l.length:Int):=by omega
          have HR:=Lib.hid (show R=j from HP.out j hj (HS.out.symm.trans (sk_here hlt hb fun q=>by
           have:=q.2;rw [List.getElem?_eq_none (by omega)] at this
           cases this)))
          rw [h47] at hcell
          replace hcell:w.cell? ⟨g,o+j,none⟩=some (.int .u8 47):=hcell
          clear hb h47 HS HP;(go_wp2_with fail);go_ret;exact ⟨by rw [HR.out];rfl,rfl⟩
      · have HR:=Lib.hid (show R=j from HP.out j hj (HS.out.symm.trans (sk_here hlt hb fun q=>h47 q.1)));(have hx2:¬ ((l[j]).toNat:Int)=47:=fun e=>h47 (UInt8.toNat_inj.1 (show (l[j]).toNat=47 by omega)));have hq:¬ (((l[j]).toNat:Int)=32∨((l[j]).toNat:Int)=9∨((l[j]).toNat:Int)=13∨((l[j]).toNat:Int)=10):=of_decide_eq_false hb;clear hb h47 HS HP;generalize ((l[j]).toNat:Int)=X at *;(have q1:¬ X=32:=fun e=>hq (.inl e));(have q2:¬ X=9:=fun e=>hq (.inr (.inl e)));(have q3:¬ X=13:=fun e=>hq (.inr (.inr (.inl e))));(have q4:¬ X=10:=fun e=>hq (.inr (.inr (.inr e))));have p1:(X == 32)=false:=beq_eq_false_iff_ne.2 q1;have p2:(X == 9)=false:=beq_eq_false_iff_ne.2 q2;have p3:(X == 13)=false:=beq_eq_false_iff_ne.2 q3;have p4:(X == 10)=false:=beq_eq_false_iff_ne.2 q4;have p5:(X == 47)=false:=beq_eq_false_iff_ne.2 hx2;clear hq q1 q2 q3 q4 hx2;(go_wp2_with fail);go_ret;exact ⟨by rw [HR.out];rfl,rfl⟩
    · have HE:=Lib.hid (show sk false (l.drop (j+1))=T by rw [← sk_drop hlt hb];exact HS.out);have hq:((l[j]).toNat:Int)=32∨((l[j]).toNat:Int)=9∨((l[j]).toNat:Int)=13∨((l[j]).toNat:Int)=10:=of_decide_eq_true hb;clear hb HS;generalize ((l[j]).toNat:Int)=X at *;(rcases hq with rfl | rfl | rfl | rfl);all_goals
       go_wp2_with fail
       go_round
       (case rel=>exact ⟨j+1,by omega,by go_num,HE⟩);case measure=>simp [intOf];omega
  · (obtain rfl:j=l.length:=by omega);have HR:=Lib.hid (show R=l.length from HP.out l.length hj (by rw [← HS.out,List.drop_length];rfl));clear HS HP;(go_wp2_with fail);go_ret;exact ⟨by rw [HR.out];rfl,rfl⟩
end Go.Proofs.Ytflhcdcifilfcaa

namespace Go.Proofs.Ytflhcdcifilfcaa
open Go Go.RowKit

def eS:El (List UInt8):=⟨9,1,fun s=>[.string (str s)],fun _=>rfl,fun x u hu=>by rw [List.mem_singleton] at hu;subst hu;rfl,by omega⟩
theorem strs_lie (w:World) (cs:Array Value) (L:List (List UInt8)) (h:cs.toList=L.map fun s=> .string (str s)):eS.Lies (w.alloc (.cells cs 9)) (w.alloc (.cells cs 9)).heap.size (some ⟨w.heap.size,0,none⟩) L:=by
 intro _;refine ⟨_,_,rfl,by simp,fun j hj f u hu=>?_⟩;have hf:f=0:=by
  have:=(List.getElem?_eq_some_iff.1 hu).1;simp [eS] at this;omega
 subst hf;have hh:=heap_alloc_new w (.cells cs 9);have hu2:u = .string (str L[j]):=by simpa [eS] using hu.symm
 subst hu2;show (w.alloc (.cells cs 9)).cell? ⟨w.heap.size,0+(j*1+0),none⟩=_;simp only [World.cell?,hh,Nat.zero_add,Nat.mul_one,Nat.add_zero];rw [← Array.getElem?_toList,h];simp [hj]
set_option maxRecDepth 100000 in
set_option maxHeartbeats 2000000 in
theorem in_any (A:Option Addr) (c:Nat) (L:List (List UInt8)) (s:List UInt8) (w:World) (hn:L.length≤1000000) (h:eS.Lies w w.heap.size A L) :
 Calls Try.prog 45 #[.slice A L.length c,.string (str s)] w fun e w'=>e = .returned (.bool (decide (s∈L)))∧w=w':=by
 obtain ⟨b,hb⟩:∃ b,decide (s∈L)=b:=⟨_,rfl⟩;have H0:=Lib.hid (show b=decide (s∈L.drop 0) by rw [← hb,List.drop_zero]);rw [hb];clear hb;have hss:=str_toList s;go_enter Try.func45,Try.ntmps45;go_wp2_with fail
 go_loop [5] (fun i=>∃ k:Nat,k≤L.length∧i = .int .i64 k∧Hid (b=decide (s∈L.drop k))) (fun i=>L.length - (intOf i).toNat)
 case atStart=>exact ⟨0,by omega,rfl,H0⟩
 case round=>
  obtain ⟨k,hk,rfl,hr⟩:=hrel;clear H0;by_cases hlt:k < L.length
  · obtain ⟨g,o,rfl,hg,hc⟩:=h.at_ hlt;have c0:w.cell? ⟨g,o+k,none⟩=some (.string (str (L[k]))):=by
     have:=hc 0 _ rfl;rw [show o+k*eS.sz+0=o+k by show o+k*1+0=_;omega] at this;exact this
    clear hc;by_cases he:L[k]=s
    · have HR:=Lib.hid (show b=true by rw [hr.out];exact decide_eq_true (by rw [List.drop_eq_getElem_cons hlt,he];exact List.mem_cons_self));rw [he] at c0;clear he hr;(go_wp2_with fail);go_ret;exact ⟨by rw [HR.out];rfl,rfl⟩
    · have HR:=Lib.hid (show b=decide (s∈L.drop (k+1)) by rw [hr.out];exact decide_eq_decide.2 ⟨fun hm=>by rw [List.drop_eq_getElem_cons hlt,List.mem_cons] at hm;exact hm.resolve_left (fun e=>he e.symm),fun hm=>by rw [List.drop_eq_getElem_cons hlt];exact List.mem_cons_of_mem _ hm⟩);(have hxe:((str L[k]).toList == (str s).toList)=false:=by rw [str_toList,str_toList];exact beq_eq_false_iff_ne.2 he);(have hxe2:¬ (str L[k]).toList=(str s).toList:=by rw [str_toList,str_toList];exact he);clear hss he hr;generalize L[k]=t at *;(have hxe3:¬ str t=str s:=fun e=>hxe2 (by rw [e]));go_wp2_with fail
      go_round
      (case rel=>exact ⟨k+1,by omega,by go_num,HR⟩);case measure=>simp [intOf];omega
  · (obtain rfl:k=L.length:=by omega);have HR:=Lib.hid (show b=false by rw [hr.out,List.drop_length];simp);clear hr;(go_wp2_with fail);go_ret;exact ⟨by rw [HR.out];rfl,rfl⟩
end Go.Proofs.Ytflhcdcifilfcaa

namespace Go.Proofs.Ytflhcdcifilfcaa
open Go Go.RowKit

theorem val_snoc {s:List UInt8} {k:Nat} (h:k < s.length):val (s.take (k+1))=10*val (s.take k)+((s[k]).toNat - 48):=by
 rw [List.take_add_one,List.getElem?_eq_getElem h];unfold val;rw [List.foldl_append];rfl
theorem val_le (s:List UInt8) (k:Nat):val (s.take k)≤val s:=by
 have h:=valF_ge (s.drop k) (val (s.take k));have e:val s=(s.drop k).foldl (fun a c=>10*a+(c.toNat - 48)) (val (s.take k)):=by
  conv=>lhs;rw [← List.take_append_drop k s]
  unfold val;rw [List.foldl_append]
 rw [e];exact h
def NumR (V:Nat) (ok:Bool) (w:World) (e:Ending) (w':World):Prop:=Below w.heap.size w w'∧∃ (x:Int) (b:Bool),e = .returned (.tuple #[.int .i64 x,.bool b])∧((¬ V < 9223372036854775808∧b=false)∨(V < 9223372036854775808∧x=(V:Int)∧b=ok))
set_option maxRecDepth 100000 in
set_option maxHeartbeats 4000000 in
theorem refNumber_any (c:UInt8) (r:List UInt8) (w:World) (hn:(c::r).length≤1099511627776) (hd:∀ x∈c::r,tDi x=true) :
 Calls Try.prog 47 #[.string (str (c::r))] w (NumR (val (c::r)) (decide ((c::r).length=1) || !decide (c=48)) w):=by
 have h0:(c::r)[0]? = some c:=rfl;have hsz:=str_sz (c::r);have hlt0:0 < (c::r).length:=by simp
 generalize c::r=s at *;have hni:(s.length:Int)≤1099511627776:=by omega
 have HD:=Lib.hid hd;obtain ⟨V,HV⟩:∃ V,Hid (val s=V):=⟨_,rfl⟩;rw [HV.out];obtain ⟨OK,HOK⟩:∃ OK,Hid ((decide (s.length=1) || !decide (c=48))=OK):=⟨_,rfl⟩;rw [HOK.out];clear hd;go_enter Try.func47,Try.ntmps47;go_wp2_with fail
 go_loop [4,5] (fun x i=>∃ (k:Nat) (X:Int),k≤s.length∧i = .int .i64 k∧x = .int .i64 X∧0≤X∧Hid (X=(val (s.take k):Int)∧val (s.take k) < 9223372036854775808)) (fun _ i=>s.length - (intOf i).toNat)
 case atStart=>exact ⟨0,0,by omega,rfl,rfl,by omega,⟨rfl,by rw [List.take_zero];decide⟩⟩
 case round=>
  obtain ⟨k,X,hk,rfl,rfl,hX0,HX⟩:=hrel;by_cases hlt:k < s.length
  · have hix:=run_idx_str w s k hlt;have hr:=digit_range (HD.out _ (List.getElem_mem hlt));have HS:=Lib.hid (val_snoc hlt);obtain ⟨D,hDe⟩:∃ D:Int,((s[k]).toNat:Int)=D+48:=⟨_,(Int.sub_add_cancel _ _).symm⟩;rw [hDe] at hix;(have hD0:0≤D:=by omega);(have hD9:D≤9:=by omega);obtain ⟨Q,hQ⟩:∃ Q,Int.tdiv (9223372036854775807 - D) 10=Q:=⟨_,rfl⟩;(have hQe:Q=(9223372036854775807 - D) / 10:=by rw [← hQ];exact Int.tdiv_eq_ediv_of_nonneg (by omega));(have hQ1:Q≤922337203685477580:=by omega);(have hQ0:0≤Q:=by omega);have HQ:=Lib.hid hQe;clear hQe;by_cases hbig:Q < X
    · have HR:=Lib.hid (show ¬ V < 9223372036854775808 from fun hv=>by
       have h1:=val_le s (k+1);have h2:=HS.out;have h3:=HX.out.1;have h4:=HV.out;have h5:=HQ.out
       omega)
      clear HX HS HQ hDe hr;go_wp2_with fail
      go_ret2
      exact ⟨Below.refl _ _,_,_,rfl,.inl ⟨HR.out,rfl⟩⟩
    · have hXQ:X≤Q:=by omega
      have HY:=Lib.hid (show 10*X+D=(val (s.take (k+1)):Int)∧val (s.take (k+1)) < 9223372036854775808 by
       have h2:=HS.out;have h3:=HX.out.1;have h5:=HQ.out
       constructor<;>omega)
      (have hb1:10*X≤9223372036854775800:=by omega);(have hb2:10*X+D≤9223372036854775807:=by have:=HQ.out;omega);(have hb3:0≤10*X:=by omega);(have hb4:0≤10*X+D:=by omega);clear HX HS HQ hDe hr;go_wp2_with fail
      go_round
      (case rel=>exact ⟨k+1,10*X+D,by omega,by go_num,rfl,hb4,HY⟩);case measure=>simp [intOf];omega
  · (obtain rfl:k=s.length:=by omega);rw [List.take_length] at HX;have HXV:=Lib.hid (show X=(V:Int)∧V < 9223372036854775808 by rw [← HV.out];exact HX.out);have hix:∀ w',(Instr.index 9 (.string (str s)) (.int .i64 0)).run Try.prog w' = .ok (.int .u8 (c.toNat:Int)) w':=by
     intro w';have:=run_idx_str w' s 0 hlt0;(have e0:s[0]'hlt0=c:=by rw [List.getElem?_eq_getElem hlt0] at h0;injection h0);rw [e0] at this;exact this
    clear HX;by_cases hone:s.length=1
    · (have ho:(s.length:Int)=1:=by omega);go_wp2_with fail
      go_quiet (fail)
      go_wp2_with fail
      go_ret2
      exact ⟨below_draws _,_,_,rfl,.inr ⟨HXV.out.2,HXV.out.1,by rw [← HOK.out];simp [hone]⟩⟩
    · (have ho:¬ (s.length:Int)=1:=by omega);by_cases h48:c=48
      · (have hcc:(c.toNat:Int)=48:=by rw [h48];rfl);rw [hcc] at hix;go_wp2_with fail
        go_quiet (fail)
        go_wp2_with fail
        go_ret2
        exact ⟨below_draws _,_,_,rfl,.inr ⟨HXV.out.2,HXV.out.1,by rw [← HOK.out];simp [hone,ho,h48]⟩⟩
      · (have hcc:¬ (c.toNat:Int)=48:=fun e=>h48 (UInt8.toNat_inj.1 (show c.toNat=48 by omega)));generalize (c.toNat:Int)=C at *;have hcb:(C != 48)=true:=bne_iff_ne.2 hcc;go_wp2_with fail
        go_quiet (fail)
        go_wp2_with fail
        go_ret2
        exact ⟨below_draws _,_,_,rfl,.inr ⟨HXV.out.2,HXV.out.1,by rw [← HOK.out];simp [hone,h48]⟩⟩
end Go.Proofs.Ytflhcdcifilfcaa
