/-
  Merged for a claim: S1F, S1G.
-/
import Derived.Test.YtjllbacefbjjaaaZSNA
import Derived.Test.YtjllbacefbjjaaaZS1E
namespace Go.Proofs.Ytjllbacefbjjaaa
open Go

abbrev mostT : Nat := 1000000
mutual
def Ex.few : Ex → Prop
 | .mk _ _ _ _ _ ks => exsF ks
def exsF : List Ex → Prop
 | [] => True
 | x :: l => l.length + 1 ≤ mostT ∧ x.few ∧ exsF l
end
mutual
def St.few : St → Prop
 | .mk _ _ _ _ _ _ ks bd el => exsF ks ∧ stsF bd ∧ stsF el
def stsF : List St → Prop
 | [] => True
 | s :: l => l.length + 1 ≤ mostT ∧ s.few ∧ stsF l
end
def Sc.few (s : Sc) : Prop := s.fs.length ≤ mostT
def Dc.few (d : Dc) : Prop := d.ps.length ≤ mostT ∧ stsF d.bd
def Pg.few (p : Pg) : Prop := p.ss.length + p.fs.length ≤ mostT ∧ (∀ s ∈ p.ss, s.few) ∧ ∀ d ∈ p.fs, d.few
def Al {α : Type} (P : α → Prop) (f : List To → R α) : Prop := ∀ u x v, u.length ≤ mostT → f u = .ok x v → P x
section
variable {α β : Type} {P : α → Prop} {Q : β → Prop} {f g : List To → R α}
theorem Al.ok {x : α} (h : P x) : Al P (fun u => .ok x u) := fun u y v _ e => by
 injection e with e
 subst e
 exact h
theorem Al.bad : Al P (fun u => .bad u) := fun u y v _ e => by cases e
theorem Al.out : Al P (fun _ => .out) := fun u y v _ e => by cases e
theorem Al.bind {k : α → List To → R β} (hm : Mo f) (h : Al P f) (hk : ∀ x, P x → Al Q (k x)) : Al Q (fun u => (f u).bind k) := fun u y w hu e => by
 obtain ⟨x, v, e1, e2⟩ := bind_is e
 have h1 := hm u
 rw [e1] at h1
 exact hk x (h u x v hu e1) v y w (Nat.le_trans h1 hu) e2
theorem Al.ite {p : List To → Prop} [DecidablePred p] (h : Al P f) (h2 : Al P g) : Al P (fun u => if p u then f u else g u) := fun u y v hu e => by
 dsimp only at e
 split at e
 · exact h u y v hu e
 · exact h2 u y v hu e
theorem Al.tl {k : To → List To → R α} (h : ∀ t, Al P (k t)) : Al P (fun u => k (hd u) u.tail) := fun u y v hu e => h _ _ y v (by simp; omega) e
theorem Al.tl0 (h : Al P f) : Al P (fun u => f u.tail) := Al.tl (k := fun _ => f) fun _ => h
theorem Al.takeS (tx : List UInt8) (h : Al P f) : Al P (fun u => takeS tx u f) := Al.ite (p := fun u => isS tx u = true) (Al.tl0 h) Al.bad
theorem Al.takeW (tx : List UInt8) (h : Al P f) : Al P (fun u => takeW tx u f) := Al.ite (p := fun u => isW tx u = true) (Al.tl0 h) Al.bad
theorem Al.takeK (kd : Int) {k : To → List To → R α} (h : ∀ t, Al P (k t)) : Al P (fun u => takeK kd u k) := Al.ite (p := fun u => isK kd u = true) (Al.tl h) Al.bad
theorem Al.fuel {F : Nat → List To → R α} (k : List To → Nat) (h : ∀ n, Al P (F n)) : Al P (fun u => F (k u) u) := fun u x v hu e => h _ u x v hu e
theorem Al.any (f : List To → R α) : Al (fun _ => True) f := fun _ _ _ _ _ => trivial
end
theorem few_leaf (kd nu : Int) (nm fl op : List UInt8) : (Ex.mk kd nu nm fl op []).few := by rw [Ex.few, exsF]; trivial
theorem few_one {x : Ex} (kd nu : Int) (nm fl op : List UInt8) (h : x.few) : (Ex.mk kd nu nm fl op [x]).few := by rw [Ex.few, exsF, exsF]; exact ⟨by simp [mostT], h, trivial⟩
theorem few_two {x y : Ex} (kd nu : Int) (nm fl op : List UInt8) (h : x.few) (h2 : y.few) : (Ex.mk kd nu nm fl op [x, y]).few := by rw [Ex.few, exsF, exsF, exsF]; exact ⟨by simp [mostT], h, by simp [mostT], h2, trivial⟩
theorem leafN_al (nm : List UInt8) : Al Ex.few (leafN nm) := Al.ite (p := fun u => isS [46] u = true) (Al.tl0 (Al.takeK 1 fun _t => Al.ok (few_leaf _ _ _ _ _))) (Al.ok (few_leaf _ _ _ _ _))
theorem leafP_al : Al Ex.few leafP :=
 Al.ite (p := fun u => isK 2 u = true) (Al.tl (k := fun t v => .ok (eNum t.nu) v) fun _t => Al.ok (few_leaf _ _ _ _ _)) (Al.ite (p := fun u => isW wTrue u = true) (Al.tl0 (Al.ok (few_leaf _ _ _ _ _))) (Al.ite (p := fun u => isW wFalse u = true) (Al.tl0 (Al.ok (few_leaf _ _ _ _ _))) (Al.takeK 1 fun t => leafN_al t.tx)))
theorem ex_al : ∀ n, Al Ex.few (prim n) ∧ (∀ k, Al Ex.few (lev n k)) ∧ ∀ k x, x.few → Al Ex.few (lop n k x)
 | 0 => ⟨Al.out, fun _ => Al.out, fun _ _ _ => Al.out⟩
 | n + 1 => by
  obtain ⟨hp, hl, ho⟩ := ex_al n
  obtain ⟨⟨mp, _⟩, ml, mo⟩ := ex_nn n
  refine ⟨?_, fun k => ?_, fun k x hx => ?_⟩
  · show Al Ex.few (fun u => prim (n + 1) u)
    simp only [prim]
    exact Al.ite (p := fun u => isU u = true) (Al.tl (k := fun t v => (prim n v).bind fun x w => .ok (eUn t.tx x) w) fun t => Al.bind mp.m hp fun x q => Al.ok (few_one _ _ _ _ _ q))
     (Al.ite (p := fun u => isS [40] u = true) (Al.tl0 (f := fun v => (lev n 0 v).bind fun x w => takeS [41] w fun v2 => .ok x v2) (Al.bind (ml 0).1.m (hl 0) fun x q => Al.takeS [41] (Al.ok q)))
      (Al.ite (p := fun u => isE u = true) (Al.tl (k := fun t w => (lev n 0 w.tail).bind fun x w => takeS [93] w fun v2 => .ok (eElem t.tx x) v2) fun t => Al.tl0 (f := fun v => (lev n 0 v).bind fun x w => takeS [93] w fun v2 => .ok (eElem t.tx x) v2) (Al.bind (ml 0).1.m (hl 0) fun x q => Al.takeS [93] (Al.ok (few_one _ _ _ _ _ q)))) leafP_al))
  · show Al Ex.few (fun u => lev (n + 1) k u)
    simp only [lev]
    exact Al.ite (p := fun _ => 5 ≤ k) hp (Al.bind (ml (k + 1)).1.m (hl (k + 1)) fun x q => ho k x q)
  · show Al Ex.few (fun u => lop (n + 1) k x u)
    simp only [lop]
    exact Al.ite (p := fun u => bndU u = k + 1) (Al.tl (k := fun t v => (lev n (k + 1) v).bind fun y w => lop n k (eBin t.tx x y) w) fun t => Al.bind (ml (k + 1)).1.m (hl (k + 1)) fun y q => ho k _ (few_two _ _ _ _ _ hx q)) (Al.ok hx)
theorem exP_al : Al Ex.few exP := Al.fuel (F := fun n => lev n 0) _ fun n => (ex_al n).2.1 0
section
variable {α : Type} {P : α → Prop} {one : List To → R α}
theorem com_al (hm : Lo one one) (h : Al P one) (h1 : ∀ u x v, one u = .ok x v → v.length + 1 ≤ u.length) : ∀ n u l v, u.length ≤ mostT → comP one n u = .ok l v → l.length + v.length ≤ u.length ∧ ∀ x ∈ l, P x
 | 0, _, _, _, _, e => by cases e
 | n + 1, u, l, v, hu, e => by
  rw [comP] at e
  obtain ⟨x, w, e1, e⟩ := bind_is e
  have hw := h1 _ _ _ e1
  have hx := h _ _ _ hu e1
  split at e
  · obtain ⟨l2, w2, e2, e⟩ := bind_is e
    have ht : w.tail.length ≤ w.length := by simp
    have := com_al hm h h1 n _ _ _ (by omega) e2
    injection e with e3 e4
    subst e3 e4
    exact ⟨by rw [List.length_cons]; omega, fun y q => (List.mem_cons.1 q).elim (fun e => by rw [e]; exact hx) (this.2 y)⟩
  · obtain ⟨h3, e⟩ := takeS_len e
    have := tail_len h3
    injection e with e3 e4
    subst e3 e4
    exact ⟨by simp; omega, fun y q => by rw [List.mem_singleton.1 q]; exact hx⟩
theorem lis_al (hm : Lo one one) (h : Al P one) (h1 : ∀ u x v, one u = .ok x v → v.length + 1 ≤ u.length) : Al (fun l : List α => l.length ≤ mostT ∧ ∀ x ∈ l, P x) (lisP one) := fun u l v hu e => by
 unfold lisP at e
 split at e
 · injection e with e _
   subst e
   exact ⟨by simp, fun x q => absurd q (by simp)⟩
 · have := com_al hm h h1 _ _ _ _ hu e
   exact ⟨by omega, this.2⟩
end
theorem exsF_of : ∀ {l : List Ex}, l.length ≤ mostT → (∀ x ∈ l, x.few) → exsF l
 | [], _, _ => by rw [exsF]; trivial
 | x :: l, h, hx => by
  rw [exsF]
  rw [List.length_cons] at h
  exact ⟨h, hx x (by simp), exsF_of (by omega) fun y q => hx y (by simp [q])⟩
theorem argP_al : Al exsF argP := fun u l v hu e => by
 have := lis_al exP_lo exP_al (fun _ _ _ h => exP_len h) u l v hu e
 exact exsF_of this.1 this.2
theorem stm_few {kd ln : Int} {nm fl cl : List UInt8} {ty : Ty} {ks : List Ex} (h : exsF ks) : (stm kd ln nm fl cl ty ks).few := by
 unfold stm
 rw [St.few, stsF]
 exact ⟨h, trivial, trivial⟩
theorem one_few {x : Ex} (h : x.few) : exsF [x] := exsF_of (by simp [mostT]) fun y q => by rw [List.mem_singleton.1 q]; exact h
theorem two_few {x y : Ex} (h : x.few) (h2 : y.few) : exsF [x, y] := exsF_of (by simp [mostT]) fun z q => by
 rcases List.mem_cons.1 q with rfl | q
 · exact h
 · rw [List.mem_singleton.1 q]; exact h2
theorem nil_few : exsF [] := by rw [exsF]; trivial
theorem semi_al {s : St} (h : s.few) : Al St.few (semi s) := Al.takeS [59] (Al.ok h)
theorem setP_al (ln : Int) (nm : List UInt8) : Al St.few (setP ln nm) :=
 Al.ite (p := fun u => isW wInput u = true) (Al.tl0 (f := fun v => takeS [40] v fun v => takeS [41] v fun w => .ok (stm 9 ln nm [] [] ty0 []) w) (Al.takeS [40] (Al.takeS [41] (Al.ok (stm_few nil_few)))))
  (Al.ite (p := fun u => isC u = true) (Al.tl (k := fun t v => (argP v.tail).bind fun l v => .ok (stm 5 ln nm [] t.tx ty0 l) v) fun t => Al.tl0 (f := fun v => (argP v).bind fun l v => .ok (stm 5 ln nm [] t.tx ty0 l) v) (Al.bind argP_lo.m argP_al fun _l q => Al.ok (stm_few q))) (Al.bind exP_lo.m exP_al fun _x q => Al.ok (stm_few (one_few q))))
theorem nmdK_al (ln : Int) (t : To) : Al St.few (nmdK ln t) :=
 Al.ite (p := fun u => isS [91] u = true) (Al.tl0 (f := fun v => (exP v).bind fun x w => takeS [93] w fun z => takeS [61] z fun y => (exP y).bind fun e q => .ok (stm 3 ln t.tx [] [] ty0 [x, e]) q) (Al.bind exP_lo.m exP_al fun _x q => Al.takeS [93] (Al.takeS [61] (Al.bind exP_lo.m exP_al fun _e q2 => Al.ok (stm_few (two_few q q2))))))
  (Al.ite (p := fun u => isS [46] u = true) (Al.tl0 (f := fun v => takeK 1 v fun f w => takeS [61] w fun z => (exP z).bind fun x q => .ok (stm 4 ln t.tx f.tx [] ty0 [x]) q) (Al.takeK 1 fun _f => Al.takeS [61] (Al.bind exP_lo.m exP_al fun _x q => Al.ok (stm_few (one_few q)))))
   (Al.takeS [61] (setP_al ln t.tx)))
theorem nmdP_al (ln : Int) : Al St.few (nmdP ln) :=
 Al.ite (p := fun u => isC u = true) (Al.tl (k := fun t v => (argP v.tail).bind fun l v => .ok (stm 5 ln [] [] t.tx ty0 l) v) fun t => Al.tl0 (f := fun v => (argP v).bind fun l v => .ok (stm 5 ln [] [] t.tx ty0 l) v) (Al.bind argP_lo.m argP_al fun _l q => Al.ok (stm_few q))) (Al.takeK 1 fun t => nmdK_al ln t)
theorem varP_al (ln : Int) : Al St.few (varP ln) :=
 Al.takeK 1 fun t => Al.bind tyP_lo.m (Al.any tyP) fun ty _ => Al.ite (p := fun u => isS [61] u = true) (Al.tl0 (f := fun v => (exP v).bind fun x z => .ok (stm 1 ln t.tx [] [] ty [x]) z) (Al.bind exP_lo.m exP_al fun _x q => Al.ok (stm_few (one_few q)))) (Al.ok (stm_few nil_few))
theorem hdP_al : Al St.few hdP := fun u x v hu e => by
 have ht : u.tail.length ≤ mostT := Nat.le_trans (by simp) hu
 unfold hdP at e
 split at e
 · obtain ⟨y, w, e1, e⟩ := bind_is e
   injection e with e _
   subst e
   exact stm_few (one_few (exP_al _ _ _ ht e1))
 · split at e
   · obtain ⟨y, w, e1, e⟩ := bind_is e
     injection e with e _
     subst e
     exact stm_few (one_few (exP_al _ _ _ ht e1))
   · split at e
     · exact Al.bind (varP_lo _).m (varP_al _) (fun s q => semi_al q) _ _ _ ht e
     · split at e
       · exact Al.takeS [40] (Al.bind exP_lo.m exP_al fun x q => Al.takeS [41] (semi_al (stm_few (one_few q)))) _ _ _ ht e
       · split at e
         · split at e
           · exact semi_al (stm_few nil_few) _ _ _ ht e
           · exact Al.bind exP_lo.m exP_al (fun x q => semi_al (stm_few (one_few q))) _ _ _ ht e
         · exact Al.bind (nmdP_lo _).m (nmdP_al _) (fun s q => semi_al q) _ _ _ hu e
theorem setB_few {s : St} {b : List St} (h : s.few) (hb : stsF b) : (s.setB b).few := by
 obtain ⟨kd, ln, nm, fl, cl, ty, ks, bd, el⟩ := s
 rw [St.setB]
 rw [St.few] at h ⊢
 exact ⟨h.1, hb, h.2.2⟩
theorem setE_few {s : St} {b : List St} (h : s.few) (hb : stsF b) : (s.setE b).few := by
 obtain ⟨kd, ln, nm, fl, cl, ty, ks, bd, el⟩ := s
 rw [St.setE]
 rw [St.few] at h ⊢
 exact ⟨h.1, h.2.1, hb⟩
theorem sta_al : ∀ n, Al St.few (staP n) ∧ Al stsF (blkP n) ∧ ∀ u l v, u.length ≤ mostT → lstP n u = .ok l v → l.length + v.length + 1 ≤ u.length ∧ stsF l
 | 0 => ⟨Al.out, Al.out, fun u l v _ e => by cases e⟩
 | n + 1 => by
  obtain ⟨hs, hb, hl⟩ := sta_al n
  obtain ⟨ms, mb, ml⟩ := sta_nn n
  refine ⟨?_, ?_, fun u l v hu e => ?_⟩
  · show Al St.few (fun u => staP (n + 1) u)
    simp only [staP]
    refine Al.bind hdP_lo.m hdP_al fun s q => ?_
    by_cases h6 : s.kd = 6
    · simp only [if_pos h6]
      exact Al.bind mb.m hb fun b qb => Al.ite (p := fun u => isW wElse u = true) (Al.tl0 (f := fun w => (blkP n w).bind fun e z => .ok ((s.setB b).setE e) z) (Al.bind mb.m hb fun e qe => Al.ok (setE_few (setB_few q qb) qe))) (Al.ok (setB_few q qb))
    · simp only [if_neg h6]
      by_cases h7 : s.kd = 7
      · simp only [if_pos h7]
        exact Al.bind mb.m hb fun b qb => Al.ok (setB_few q qb)
      · simp only [if_neg h7]
        exact Al.ok q
  · show Al stsF (fun u => blkP (n + 1) u)
    simp only [blkP]
    exact Al.takeS [123] fun u l v hu e => (hl u l v hu e).2
  · rw [lstP] at e
    split at e
    · rename_i hq
      have := tail_len (isS_ne hq)
      injection e with e1 e2
      subst e1 e2
      exact ⟨by simp; omega, by rw [stsF]; trivial⟩
    · obtain ⟨s, w, e1, e⟩ := bind_is e
      obtain ⟨l2, w2, e2, e⟩ := bind_is e
      have hw := (enoughS n).1 u |>.2 _ _ e1
      have := hl _ _ _ (by omega) e2
      injection e with e3 e4
      subst e3 e4
      refine ⟨by rw [List.length_cons]; omega, ?_⟩
      rw [stsF]
      exact ⟨by omega, hs _ _ _ hu e1, this.2⟩
theorem blP_al : Al stsF blP := Al.fuel (F := fun n => blkP n) _ fun n => (sta_al n).2.1
theorem fld_al : ∀ n u l v, fldP n u = .ok l v → l.length + v.length ≤ u.length
 | 0, _, _, _, e => by cases e
 | n + 1, u, l, v, e => by
  rw [fldP] at e
  split at e
  · injection e with e1 e2
    subst e1 e2
    simp
  · obtain ⟨h1, e⟩ := takeK_len e
    obtain ⟨h2, e⟩ := takeW_len e
    obtain ⟨h3, e⟩ := takeS_len e
    have := tail_len h1
    have := tail_len h2
    have := tail_len h3
    obtain ⟨l2, w2, e2, e⟩ := bind_is e
    have := fld_al n _ _ _ e2
    injection e with e3 e4
    subst e3 e4
    rw [List.length_cons]
    omega
theorem scP_al : Al Sc.few scP := Al.takeW wType (Al.takeK 1 fun t => Al.takeW wStruct (Al.takeS [123] (Al.bind (P := fun l : List (List UInt8) => l.length ≤ mostT) (Lo.fuel (F := fun n => fldP n) (F' := fun n => fldP n) (fun y => y.length + 1) (fun y => y.length + 1) fld_lo).m (fun u l v hu e => by have := fld_al _ _ _ _ e; omega) fun l q => Al.ok q)))
theorem dcP_al : Al Dc.few dcP := fun u x v hu e => by
 unfold dcP at e
 exact Al.takeW wFunc (Al.takeK 1 fun t => Al.takeS [40] (Al.bind (lisP_lo pmP_lo).m (lis_al (P := fun _ => True) pmP_lo (Al.any pmP) (fun _ _ _ h => pmP_len h)) fun ps q => Al.bind rsP_lo.m (Al.any rsP) fun rs _ => Al.bind blP_lo.m blP_al fun b qb => Al.ok (P := Dc.few) (x := ⟨t.tx, (hd u).ln, ps, rs, b⟩) ⟨q.1, qb⟩)) u x v hu e
theorem pg_al : ∀ n x u y v, pgP n x u = .ok y v → u.length ≤ mostT → x.ss.length + x.fs.length + u.length ≤ mostT → (∀ s ∈ x.ss, s.few) → (∀ d ∈ x.fs, d.few) → y.few
 | 0, _, _, _, _, e, _, _, _, _ => by cases e
 | n + 1, x, u, y, v, e, hu, hl, hs, hd => by
  rw [pgP] at e
  split at e
  · injection e with e _
    subst e
    exact ⟨by omega, hs, hd⟩
  · split at e
    · obtain ⟨s, w, e1, e⟩ := bind_is e
      have := scP_len e1
      exact pg_al n _ _ _ _ e (by omega) (by simp; omega) (fun t q => (List.mem_append.1 q).elim (hs t) (fun e => by rw [List.mem_singleton.1 e]; exact scP_al _ _ _ hu e1)) hd
    · obtain ⟨s, w, e1, e⟩ := bind_is e
      have := dcP_len e1
      exact pg_al n _ _ _ _ e (by omega) (by simp; omega) hs (fun t q => (List.mem_append.1 q).elim (hd t) (fun e => by rw [List.mem_singleton.1 e]; exact dcP_al _ _ _ hu e1))
theorem proP_few {u v : List To} {y : Pg} (hu : u.length ≤ mostT) (h : proP u = .ok y v) : y.few := pg_al _ _ _ _ _ h hu (by simpa using hu) (fun _ q => absurd q (by simp)) fun _ q => absurd q (by simp)
end Go.Proofs.Ytjllbacefbjjaaa

namespace Go.Proofs.Ytjllbacefbjjaaa
open Go Go.RowKit

theorem exsD_max : ∀ (l : List Ex) (m : Nat), decide (m < exsD l) = l.any fun x => decide (m < x.dp)
 | [], m => by simp [exsD]
 | x :: l, m => by
  rw [List.any_cons, ← exsD_max l m, exsD]
  by_cases h1 : m < x.dp <;> by_cases h2 : m < exsD l <;> simp [h1, h2] <;> omega
theorem stsD_max : ∀ (l : List St) (m : Nat), decide (m < stsD l) = l.any fun x => decide (m < x.dp)
 | [], m => by simp [stsD]
 | x :: l, m => by
  rw [List.any_cons, ← stsD_max l m, stsD]
  by_cases h1 : m < x.dp <;> by_cases h2 : m < stsD l <;> simp [h1, h2] <;> omega
theorem exsF_get : ∀ {l : List Ex}, exsF l → l.length ≤ mostT ∧ ∀ x ∈ l, x.few
 | [], _ => ⟨by simp, fun _ q => absurd q (by simp)⟩
 | x :: l, h => by
  rw [exsF] at h
  exact ⟨by rw [List.length_cons]; exact h.1, fun y q => (List.mem_cons.1 q).elim (fun e => by rw [e]; exact h.2.1) ((exsF_get h.2.2).2 y)⟩
theorem stsF_get : ∀ {l : List St}, stsF l → l.length ≤ mostT ∧ ∀ x ∈ l, x.few
 | [], _ => ⟨by simp, fun _ q => absurd q (by simp)⟩
 | x :: l, h => by
  rw [stsF] at h
  exact ⟨by rw [List.length_cons]; exact h.1, fun y q => (List.mem_cons.1 q).elim (fun e => by rw [e]; exact h.2.1) ((stsF_get h.2.2).2 y)⟩
theorem xsOk_all {w : World} {P : Nat → Prop} : ∀ {l : List XT}, xsOk w P l → ∀ x ∈ l, x.Ok w P
 | [], _, _, q => absurd q (by simp)
 | y :: l, h, x, q => by
  rw [xsOk] at h
  rcases List.mem_cons.1 q with rfl | q
  · exact h.1
  · exact xsOk_all h.2 x q
theorem any_take {α : Type} (p : α → Bool) : ∀ (l : List α) (k : Nat), (∀ j (hj : j < l.length), j < k → p l[j] = false) → l.length ≤ k → l.any p = false
 | [], _, _, _ => rfl
 | x :: l, 0, _, h => absurd h (by simp)
 | x :: l, k + 1, h, hk => by
  have h0 : p x = false := h 0 (by simp) (by omega)
  rw [List.any_cons, h0, any_take p l k (fun j hj hjk => h (j + 1) (by simpa using hj) (by omega)) (by simpa using hk)]
  rfl
theorem any_at {α : Type} (p : α → Bool) {l : List α} {k : Nat} (hk : k < l.length) (h : p l[k] = true) : l.any p = true := List.any_eq_true.2 ⟨l[k], List.getElem_mem hk, h⟩
set_option maxRecDepth 100000 in
set_option maxHeartbeats 4000000 in
theorem deepKids_any (P : Nat → Prop) : ∀ (M : Nat) (A : Option Addr) (c : Nat) (ks : List XT) (W : World), M ≤ 40 → RowP eX W P A c ks → xsOk W P ks → exsF (xsd ks) →
 Calls Try.prog 64 #[.slice A ks.length c, .int .i64 M] W (fun e w' => e = .returned (.bool (decide (M < exsD (xsd ks)))) ∧ Below W.heap.size W w')
 | M, A, c, ks, W, hM, hR, hO, hF => by
  have HIH : ∀ m, m + 1 = M → ∀ (A : Option Addr) (c : Nat) (ks : List XT) (W : World), RowP eX W P A c ks → xsOk W P ks → exsF (xsd ks) →
   Calls Try.prog 64 #[.slice A ks.length c, .int .i64 m] W (fun e w' => e = .returned (.bool (decide (m < exsD (xsd ks)))) ∧ Below W.heap.size W w') := fun m hm A c ks W h1 h2 h3 => deepKids_any P m A c ks W (by omega) h1 h2 h3
  have hks : ks.length ≤ 1000000 := by have := (exsF_get hF).1; rw [xsd_map, List.length_map] at this; exact this
  obtain ⟨r, hr⟩ : ∃ r, decide (M < exsD (xsd ks)) = r := ⟨_, rfl⟩
  rw [hr]
  have HR := Lib.hid (show r = ks.any fun x => decide (M < x.d.dp) by rw [← hr, exsD_max, xsd_map, List.any_map]; rfl)
  have HRow := Lib.hid hR
  have HO := Lib.hid hO
  have HF := Lib.hid hF
  clear hr hR hO hF
  go_enter Try.func64, Try.ntmps64
  go_wp2_with fail
  go_loopw [9] (fun i wr => ∃ k : Nat, k ≤ ks.length ∧ i = .int .i64 k ∧ Hid (∀ j (hj : j < ks.length), j < k → decide (M < ks[j].d.dp) = false) ∧ Hid (Below W.heap.size W wr)) (fun i _ => ks.length - (intOf i).toNat)
  case atStart => exact ⟨0, by omega, rfl, fun j _ h => absurd h (by omega), Below.refl _ _⟩
  case round =>
   obtain ⟨k, hk, rfl, hno, hB⟩ := hrel
   by_cases hlt : k < ks.length
   · have hRw := HRow.out.keep (w' := wr) (Q := P) (fun g _ ht => hB.out.block g ht.lt) (fun _ q => q)
     obtain ⟨g, o, rfl, hg, hcell⟩ := hRw.1.lies.at_ hlt
     have hko := xsOk_all HO.out _ (List.getElem_mem hlt)
     have hfe := (exsF_get HF.out).2 ks[k].d (by rw [xsd_map]; exact List.mem_map.2 ⟨_, List.getElem_mem hlt, rfl⟩)
     have HK := Lib.hid (show ∀ b, decide (M < ks[k].d.dp) = b → (b = true → r = true) ∧ (b = false → ∀ j (hj : j < ks.length), j < k + 1 → decide (M < ks[j].d.dp) = false) from fun b hb => ⟨fun e => by rw [HR.out]; exact any_at _ hlt (hb.trans e), fun e j hj hjk => by
      by_cases hjk2 : j < k
      · exact hno.out j hj hjk2
      · obtain rfl : j = k := by omega
        exact hb.trans e⟩)
     generalize ks[k] = t at *
     obtain ⟨kd, nu, nm, fl, op, kA, kc, kk⟩ := t
     have d0 := hcell 0 _ rfl
     have d1 := hcell 1 _ rfl
     have d2 := hcell 2 _ rfl
     have d3 := hcell 3 _ rfl
     have d4 := hcell 4 _ rfl
     have d5 := hcell 5 _ rfl
     simp only [Nat.add_zero, show eX.sz = 6 from rfl] at d0 d1 d2 d3 d4 d5
     rw [XT.Ok] at hko
     rw [XT.d] at hfe HK
     rw [Ex.few] at hfe
     have hbb := below_lnew wr (.cells #[.int .u8 kd, .int .i64 nu, .string (str nm), .string (str fl), .string (str op), .slice kA kk.length kc] 53)
     have HBB := Lib.hid (hB.out.trans (hbb.mono hB.out.size))
     have hnew := heap_alloc_new wr (.cells #[.int .u8 kd, .int .i64 nu, .string (str nm), .string (str fl), .string (str op), .slice kA kk.length kc] 53)
     have HKO := Lib.hid hko
     have HFE := Lib.hid hfe
     rw [Ex.dp] at HK
     clear hcell hko hfe hno hbb hRw
     by_cases hM0 : M = 0
     · subst hM0
       have hT := (HK.out true (decide_eq_true (Nat.succ_pos _))).1 rfl
       go_wp2_with fail
       go_ret
       exact ⟨by rw [hT]; rfl, HBB.out⟩
     · obtain ⟨m, hm⟩ : ∃ m, m + 1 = M := ⟨M - 1, by omega⟩
       have HC := Lib.hid (HIH m hm kA kc kk (wr.alloc (.cells #[.int .u8 kd, .int .i64 nu, .string (str nm), .string (str fl), .string (str op), .slice kA kk.length kc] 53)) (RowP.keep HKO.out.1 (fun g _ ht => HBB.out.block g ht.lt) (fun _ q => q)) (xsOk.keep (fun g _ ht => HBB.out.block g ht.lt) (fun _ q => q) _ HKO.out.2) HFE.out)
       have hMi : ¬ (M : Int) = 0 := by omega
       have hMw : IntKind.i64.wrap ((M : Int) - 1) = (m : Int) := by rw [IntKind.wrap_i64]; omega
       have HD := Lib.hid (show decide (M < exsD (xsd kk) + 1) = decide (m < exsD (xsd kk)) by
        by_cases h : m < exsD (xsd kk)
        · rw [decide_eq_true h, decide_eq_true (by omega)]
        · rw [decide_eq_false h, decide_eq_false (by omega)])
       rw [HD.out] at HK
       clear hM0 hm HIH HKO HFE HRow HO HF HD
       generalize decide (m < exsD (xsd kk)) = b at *
       have HK2 := Lib.hid (HK.out b rfl)
       clear HK
       go_wp2_with fail
       refine HC.out.mono ?_
       rintro e w2 ⟨rfl, hb2⟩
       have HB2 := Lib.hid (HBB.out.trans (hb2.mono HBB.out.size))
       clear hb2 HC
       cases b
       · have HN := Lib.hid (HK2.out.2 rfl)
         go_wp2_with fail
         go_roundw
         case rel => exact ⟨k + 1, by omega, by go_num, HN, HB2⟩
         case measure => simp [intOf]; omega
       · have hT := HK2.out.1 rfl
         go_wp2_with fail
         go_ret
         exact ⟨by rw [hT]; rfl, HB2.out⟩
   · obtain rfl : k = ks.length := by omega
     have hT : r = false := by
      rw [HR.out]
      exact any_take _ ks ks.length (fun j hj hjk => hno.out j hj hjk) (Nat.le_refl _)
     go_wp2_with fail
     go_ret
     exact ⟨by rw [hT]; rfl, hB.out⟩
theorem St.dp_eq {M m : Nat} (hm : m + 1 = M) (hM : M ≤ 40) (kd ln : Int) (nm fl cl : List UInt8) (ty : Ty) (ks : List Ex) (bd el : List St) :
 decide (M < (St.mk kd ln nm fl cl ty ks bd el).dp) = (decide (40 < exsD ks) || decide (m < stsD bd) || decide (m < stsD el)) := by
 rw [St.dp]
 by_cases h : 40 < exsD ks
 · rw [if_pos h, decide_eq_true h, decide_eq_true (by omega)]
   rfl
 · rw [if_neg h, decide_eq_false h]
   by_cases h1 : m < stsD bd <;> by_cases h2 : m < stsD el <;> simp [h1, h2] <;> omega
theorem St.dp_pos (s : St) : 0 < s.dp := by
 obtain ⟨kd, ln, nm, fl, cl, ty, ks, bd, el⟩ := s
 rw [St.dp]
 split <;> omega
set_option maxRecDepth 100000 in
set_option maxHeartbeats 8000000 in
theorem deepList_any (P : Nat → Prop) : ∀ (M : Nat) (A : Option Addr) (c : Nat) (ks : List XS) (W : World), M ≤ 40 → RowP eSt W P A c ks → xssOk W P ks → stsF (xssd ks) →
 Calls Try.prog 38 #[.slice A ks.length c, .int .i64 M] W (fun e w' => e = .returned (.bool (decide (M < stsD (xssd ks)))) ∧ Below W.heap.size W w')
 | M, A, c, ks, W, hM, hR, hO, hF => by
  have HIH : ∀ m, m + 1 = M → ∀ (A : Option Addr) (c : Nat) (ks : List XS) (W : World), RowP eSt W P A c ks → xssOk W P ks → stsF (xssd ks) →
   Calls Try.prog 38 #[.slice A ks.length c, .int .i64 m] W (fun e w' => e = .returned (.bool (decide (m < stsD (xssd ks)))) ∧ Below W.heap.size W w') := fun m hm A c ks W h1 h2 h3 => deepList_any P m A c ks W (by omega) h1 h2 h3
  have hks : ks.length ≤ 1000000 := by have := (stsF_get hF).1; rw [xssd_map, List.length_map] at this; exact this
  obtain ⟨r, hr⟩ : ∃ r, decide (M < stsD (xssd ks)) = r := ⟨_, rfl⟩
  rw [hr]
  have HR := Lib.hid (show r = ks.any fun x => decide (M < x.d.dp) by rw [← hr, stsD_max, xssd_map, List.any_map]; rfl)
  have HRow := Lib.hid hR
  have HO := Lib.hid hO
  have HF := Lib.hid hF
  clear hr hR hO hF
  go_enter Try.func38, Try.ntmps38
  go_wp2_with fail
  go_loopw [9] (fun i wr => ∃ k : Nat, k ≤ ks.length ∧ i = .int .i64 k ∧ Hid (∀ j (hj : j < ks.length), j < k → decide (M < ks[j].d.dp) = false) ∧ Hid (Below W.heap.size W wr)) (fun i _ => ks.length - (intOf i).toNat)
  case atStart => exact ⟨0, by omega, rfl, fun j _ h => absurd h (by omega), Below.refl _ _⟩
  case round =>
   obtain ⟨k, hk, rfl, hno, hB⟩ := hrel
   by_cases hlt : k < ks.length
   · have hRw := HRow.out.keep (w' := wr) (Q := P) (fun g _ ht => hB.out.block g ht.lt) (fun _ q => q)
     obtain ⟨g, o, rfl, hg, hcell⟩ := hRw.1.lies.at_ hlt
     have hko := xssOk.all HO.out _ (List.getElem_mem hlt)
     have hfe := (stsF_get HF.out).2 ks[k].d (by rw [xssd_map]; exact List.mem_map.2 ⟨_, List.getElem_mem hlt, rfl⟩)
     have HK := Lib.hid (show ∀ b, decide (M < ks[k].d.dp) = b → (b = true → r = true) ∧ (b = false → ∀ j (hj : j < ks.length), j < k + 1 → decide (M < ks[j].d.dp) = false) from fun b hb => ⟨fun e => by rw [HR.out]; exact any_at _ hlt (hb.trans e), fun e j hj hjk => by
      by_cases hjk2 : j < k
      · exact hno.out j hj hjk2
      · obtain rfl : j = k := by omega
        exact hb.trans e⟩)
     generalize ks[k] = t at *
     obtain ⟨kd, ln, nm, fl, cl, ⟨tk, tn, tm⟩, kA, kc, kk, bA, bc, bd, eA, ec, el⟩ := t
     have d0 := hcell 0 _ rfl
     have d1 := hcell 1 _ rfl
     have d2 := hcell 2 _ rfl
     have d3 := hcell 3 _ rfl
     have d4 := hcell 4 _ rfl
     have d5 := hcell 5 _ rfl
     have d6 := hcell 6 _ rfl
     have d7 := hcell 7 _ rfl
     have d8 := hcell 8 _ rfl
     have d9 := hcell 9 _ rfl
     have d10 := hcell 10 _ rfl
     simp only [Nat.add_zero, show eSt.sz = 11 from rfl] at d0 d1 d2 d3 d4 d5 d6 d7 d8 d9 d10
     rw [XS.Ok] at hko
     rw [XS.d] at hfe HK
     rw [St.few] at hfe
     have hbb := below_lnew wr (.cells #[.int .u8 kd, .int .i64 ln, .string (str nm), .string (str fl), .string (str cl), .int .u8 tk, .int .i64 tn, .string (str tm), .slice kA kk.length kc, .slice bA bd.length bc, .slice eA el.length ec] 51)
     have hBB := hB.out.trans (hbb.mono hB.out.size)
     have hnew := heap_alloc_new wr (.cells #[.int .u8 kd, .int .i64 ln, .string (str nm), .string (str fl), .string (str cl), .int .u8 tk, .int .i64 tn, .string (str tm), .slice kA kk.length kc, .slice bA bd.length bc, .slice eA el.length ec] 51)
     have HKO := Lib.hid hko
     have HFE := Lib.hid hfe
     clear hcell hko hfe hno hbb hRw
     by_cases hM0 : M = 0
     · subst hM0
       have hT := (HK.out true (decide_eq_true (St.dp_pos _))).1 rfl
       have HBB := Lib.hid hBB
       clear hBB
       go_wp2_with fail
       go_ret
       exact ⟨by rw [hT]; rfl, HBB.out⟩
     · obtain ⟨m, hm⟩ : ∃ m, m + 1 = M := ⟨M - 1, by omega⟩
       have HBB := Lib.hid hBB
       clear hBB
       have HKd := Lib.hid (fun W2 (hb : Below W.heap.size W W2) => deepKids_any P 40 kA kc kk W2 (Nat.le_refl _) (RowP.keep HKO.out.1.1 (fun g _ ht => hb.block g ht.lt) (fun _ q => q)) (xsOk.keep (fun g _ ht => hb.block g ht.lt) (fun _ q => q) _ HKO.out.2.1) HFE.out.1)
       have HBd := Lib.hid (fun W2 (hb : Below W.heap.size W W2) => HIH m hm bA bc bd W2 (RowP.keep HKO.out.1.2.1 (fun g _ ht => hb.block g ht.lt) (fun _ q => q)) (xssOk.keep (fun g _ ht => hb.block g ht.lt) (fun g _ ht => hb.block g ht.lt) (fun _ q => q) _ HKO.out.2.2.1) HFE.out.2.1)
       have HEl := Lib.hid (fun W2 (hb : Below W.heap.size W W2) => HIH m hm eA ec el W2 (RowP.keep HKO.out.1.2.2 (fun g _ ht => hb.block g ht.lt) (fun _ q => q)) (xssOk.keep (fun g _ ht => hb.block g ht.lt) (fun g _ ht => hb.block g ht.lt) (fun _ q => q) _ HKO.out.2.2.2) HFE.out.2.2)
       have hMi : ¬ (M : Int) = 0 := by omega
       have hMw : IntKind.i64.wrap ((M : Int) - 1) = (m : Int) := by rw [IntKind.wrap_i64]; omega
       rw [St.dp_eq hm hM] at HK
       have HK2 := Lib.hid (HK.out _ rfl)
       clear hM0 hm HIH HKO HFE HRow HO HF HK
       generalize decide (40 < exsD (xsd kk)) = b1 at *
       generalize decide (m < stsD (xssd bd)) = b2 at *
       generalize decide (m < stsD (xssd el)) = b3 at *
       have n0 := hnew
       have x8 := (show CAt _ wr.heap.size 51 [.int .u8 kd, .int .i64 ln, .string (str nm), .string (str fl), .string (str cl), .int .u8 tk, .int .i64 tn, .string (str tm), .slice kA kk.length kc, .slice bA bd.length bc, .slice eA el.length ec] from hnew)
       have HX := Lib.hid x8
       clear n0 x8 hnew
       go_wp2_with fail
       refine (HKd.out _ HBB.out).mono ?_
       rintro e w2 ⟨rfl, hb2⟩
       have HB2 := Lib.hid (HBB.out.trans (hb2.mono HBB.out.size))
       have HX2 := Lib.hid (HX.out.below hb2 HX.out.lt)
       have y9 := HX2.out.cell (j := 9) (by simp)
       have y10 := HX2.out.cell (j := 10) (by simp)
       simp only [List.getElem_cons_zero, List.getElem_cons_succ] at y9 y10
       clear hb2 HKd HX
       cases b1
       · go_wp2_with fail
         refine (HBd.out _ HB2.out).mono ?_
         rintro e w3 ⟨rfl, hb3⟩
         have HB3 := Lib.hid (HB2.out.trans (hb3.mono HB2.out.size))
         have HX3 := Lib.hid (HX2.out.below hb3 HX2.out.lt)
         have z10 := HX3.out.cell (j := 10) (by simp)
         simp only [List.getElem_cons_zero, List.getElem_cons_succ] at z10
         clear hb3 HBd HX2 y9 y10
         cases b2
         · go_wp2_with fail
           refine (HEl.out _ HB3.out).mono ?_
           rintro e w4 ⟨rfl, hb4⟩
           have HB4 := Lib.hid (HB3.out.trans (hb4.mono HB3.out.size))
           clear hb4 HEl HX3 z10
           cases b3
           · have HN := Lib.hid (HK2.out.2 rfl)
             go_wp2_with fail
             go_roundw
             case rel => exact ⟨k + 1, by omega, by go_num, HN, HB4⟩
             case measure => simp [intOf]; omega
           · have hT := HK2.out.1 rfl
             go_wp2_with fail
             go_ret
             exact ⟨by rw [hT]; rfl, HB4.out⟩
         · have hT := HK2.out.1 rfl
           go_wp2_with fail
           go_ret
           exact ⟨by rw [hT]; rfl, HB3.out⟩
       · have hT := HK2.out.1 rfl
         go_wp2_with fail
         go_ret
         exact ⟨by rw [hT]; rfl, HB2.out⟩
   · obtain rfl : k = ks.length := by omega
     have hT : r = false := by
      rw [HR.out]
      exact any_take _ ks ks.length (fun j hj hjk => hno.out j hj hjk) (Nat.le_refl _)
     go_wp2_with fail
     go_ret
     exact ⟨by rw [hT]; rfl, hB.out⟩
end Go.Proofs.Ytjllbacefbjjaaa
