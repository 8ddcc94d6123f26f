/-
  Merged for a claim: S1F.
-/
import Derived.Test.YtcgohlooelojfaaJSNA
namespace Go.Proofs.Ytcgohlooelojfaa
open Go

abbrev mostT : Nat := 1000000
mutual
def Ex.few : Ex → Prop
  | .mk _ _ _ _ _ ks => exsF ks
def exsF : List Ex → Prop
  | [] => True
  | x :: l => l.length + 1 ≤ mostT ∧ x.few ∧ exsF l
end
mutual
def St.few : St → Prop
  | .mk _ _ _ _ _ _ ks bd el => exsF ks ∧ stsF bd ∧ stsF el
def stsF : List St → Prop
  | [] => True
  | s :: l => l.length + 1 ≤ mostT ∧ s.few ∧ stsF l
end
def Sc.few (s : Sc) : Prop := s.fs.length ≤ mostT
def Dc.few (d : Dc) : Prop := d.ps.length ≤ mostT ∧ stsF d.bd
def Pg.few (p : Pg) : Prop := p.ss.length + p.fs.length ≤ mostT ∧ (∀ s ∈ p.ss, s.few) ∧ ∀ d ∈ p.fs, d.few
def Al {α : Type} (P : α → Prop) (f : List To → R α) : Prop := ∀ u x v, u.length ≤ mostT → f u = .ok x v → P x
section
variable {α β : Type} {P : α → Prop} {Q : β → Prop} {f g : List To → R α}
theorem Al.ok {x : α} (h : P x) : Al P (fun u => .ok x u) := fun u y v _ e => by
  injection e with e
  subst e
  exact h
theorem Al.bad : Al P (fun u => .bad u) := fun u y v _ e => by cases e
theorem Al.out : Al P (fun _ => .out) := fun u y v _ e => by cases e
theorem Al.bind {k : α → List To → R β} (hm : Mo f) (h : Al P f) (hk : ∀ x, P x → Al Q (k x)) : Al Q (fun u => (f u).bind k) := fun u y w hu e => by
  obtain ⟨x, v, e1, e2⟩ := bind_is e
  have h1 := hm u
  rw [e1] at h1
  exact hk x (h u x v hu e1) v y w (Nat.le_trans h1 hu) e2
theorem Al.ite {p : List To → Prop} [DecidablePred p] (h : Al P f) (h2 : Al P g) : Al P (fun u => if p u then f u else g u) := fun u y v hu e => by
  dsimp only at e
  split at e
  · exact h u y v hu e
  · exact h2 u y v hu e
theorem Al.tl {k : To → List To → R α} (h : ∀ t, Al P (k t)) : Al P (fun u => k (hd u) u.tail) := fun u y v hu e => h _ _ y v (by simp; omega) e
theorem Al.tl0 (h : Al P f) : Al P (fun u => f u.tail) := Al.tl (k := fun _ => f) fun _ => h
theorem Al.takeS (tx : List UInt8) (h : Al P f) : Al P (fun u => takeS tx u f) := Al.ite (p := fun u => isS tx u = true) (Al.tl0 h) Al.bad
theorem Al.takeW (tx : List UInt8) (h : Al P f) : Al P (fun u => takeW tx u f) := Al.ite (p := fun u => isW tx u = true) (Al.tl0 h) Al.bad
theorem Al.takeK (kd : Int) {k : To → List To → R α} (h : ∀ t, Al P (k t)) : Al P (fun u => takeK kd u k) := Al.ite (p := fun u => isK kd u = true) (Al.tl h) Al.bad
theorem Al.fuel {F : Nat → List To → R α} (k : List To → Nat) (h : ∀ n, Al P (F n)) : Al P (fun u => F (k u) u) := fun u x v hu e => h _ u x v hu e
theorem Al.any (f : List To → R α) : Al (fun _ => True) f := fun _ _ _ _ _ => trivial
end
theorem few_leaf (kd nu : Int) (nm fl op : List UInt8) : (Ex.mk kd nu nm fl op []).few := by rw [Ex.few, exsF]; trivial
theorem few_one {x : Ex} (kd nu : Int) (nm fl op : List UInt8) (h : x.few) : (Ex.mk kd nu nm fl op [x]).few := by rw [Ex.few, exsF, exsF]; exact ⟨by simp [mostT], h, trivial⟩
theorem few_two {x y : Ex} (kd nu : Int) (nm fl op : List UInt8) (h : x.few) (h2 : y.few) : (Ex.mk kd nu nm fl op [x, y]).few := by rw [Ex.few, exsF, exsF, exsF]; exact ⟨by simp [mostT], h, by simp [mostT], h2, trivial⟩
theorem leafN_al (nm : List UInt8) : Al Ex.few (leafN nm) := Al.ite (p := fun u => isS [46] u = true) (Al.tl0 (Al.takeK 1 fun _t => Al.ok (few_leaf _ _ _ _ _))) (Al.ok (few_leaf _ _ _ _ _))
theorem leafP_al : Al Ex.few leafP :=
  Al.ite (p := fun u => isK 2 u = true) (Al.tl (k := fun t v => .ok (eNum t.nu) v) fun _t => Al.ok (few_leaf _ _ _ _ _)) (Al.ite (p := fun u => isW wTrue u = true) (Al.tl0 (Al.ok (few_leaf _ _ _ _ _))) (Al.ite (p := fun u => isW wFalse u = true) (Al.tl0 (Al.ok (few_leaf _ _ _ _ _))) (Al.takeK 1 fun t => leafN_al t.tx)))
theorem ex_al : ∀ n, Al Ex.few (prim n) ∧ (∀ k, Al Ex.few (lev n k)) ∧ ∀ k x, x.few → Al Ex.few (lop n k x)
  | 0 => ⟨Al.out, fun _ => Al.out, fun _ _ _ => Al.out⟩
  | n + 1 => by
    obtain ⟨hp, hl, ho⟩ := ex_al n
    obtain ⟨⟨mp, _⟩, ml, mo⟩ := ex_nn n
    refine ⟨?_, fun k => ?_, fun k x hx => ?_⟩
    · show Al Ex.few (fun u => prim (n + 1) u)
      simp only [prim]
      exact Al.ite (p := fun u => isU u = true) (Al.tl (k := fun t v => (prim n v).bind fun x w => .ok (eUn t.tx x) w) fun t => Al.bind mp.m hp fun x q => Al.ok (few_one _ _ _ _ _ q))
        (Al.ite (p := fun u => isS [40] u = true) (Al.tl0 (f := fun v => (lev n 0 v).bind fun x w => takeS [41] w fun v2 => .ok x v2) (Al.bind (ml 0).1.m (hl 0) fun x q => Al.takeS [41] (Al.ok q)))
          (Al.ite (p := fun u => isE u = true) (Al.tl (k := fun t w => (lev n 0 w.tail).bind fun x w => takeS [93] w fun v2 => .ok (eElem t.tx x) v2) fun t => Al.tl0 (f := fun v => (lev n 0 v).bind fun x w => takeS [93] w fun v2 => .ok (eElem t.tx x) v2) (Al.bind (ml 0).1.m (hl 0) fun x q => Al.takeS [93] (Al.ok (few_one _ _ _ _ _ q)))) leafP_al))
    · show Al Ex.few (fun u => lev (n + 1) k u)
      simp only [lev]
      exact Al.ite (p := fun _ => 5 ≤ k) hp (Al.bind (ml (k + 1)).1.m (hl (k + 1)) fun x q => ho k x q)
    · show Al Ex.few (fun u => lop (n + 1) k x u)
      simp only [lop]
      exact Al.ite (p := fun u => bndU u = k + 1) (Al.tl (k := fun t v => (lev n (k + 1) v).bind fun y w => lop n k (eBin t.tx x y) w) fun t => Al.bind (ml (k + 1)).1.m (hl (k + 1)) fun y q => ho k _ (few_two _ _ _ _ _ hx q)) (Al.ok hx)
theorem exP_al : Al Ex.few exP := Al.fuel (F := fun n => lev n 0) _ fun n => (ex_al n).2.1 0
section
variable {α : Type} {P : α → Prop} {one : List To → R α}
theorem com_al (hm : Lo one one) (h : Al P one) (h1 : ∀ u x v, one u = .ok x v → v.length + 1 ≤ u.length) : ∀ n u l v, u.length ≤ mostT → comP one n u = .ok l v → l.length + v.length ≤ u.length ∧ ∀ x ∈ l, P x
  | 0, _, _, _, _, e => by cases e
  | n + 1, u, l, v, hu, e => by
    rw [comP] at e
    obtain ⟨x, w, e1, e⟩ := bind_is e
    have hw := h1 _ _ _ e1
    have hx := h _ _ _ hu e1
    split at e
    · obtain ⟨l2, w2, e2, e⟩ := bind_is e
      have ht : w.tail.length ≤ w.length := by simp
      have := com_al hm h h1 n _ _ _ (by omega) e2
      injection e with e3 e4
      subst e3 e4
      exact ⟨by rw [List.length_cons]; omega, fun y q => (List.mem_cons.1 q).elim (fun e => by rw [e]; exact hx) (this.2 y)⟩
    · obtain ⟨h3, e⟩ := takeS_len e
      have := tail_len h3
      injection e with e3 e4
      subst e3 e4
      exact ⟨by simp; omega, fun y q => by rw [List.mem_singleton.1 q]; exact hx⟩
theorem lis_al (hm : Lo one one) (h : Al P one) (h1 : ∀ u x v, one u = .ok x v → v.length + 1 ≤ u.length) : Al (fun l : List α => l.length ≤ mostT ∧ ∀ x ∈ l, P x) (lisP one) := fun u l v hu e => by
  unfold lisP at e
  split at e
  · injection e with e _
    subst e
    exact ⟨by simp, fun x q => absurd q (by simp)⟩
  · have := com_al hm h h1 _ _ _ _ hu e
    exact ⟨by omega, this.2⟩
end
theorem exsF_of : ∀ {l : List Ex}, l.length ≤ mostT → (∀ x ∈ l, x.few) → exsF l
  | [], _, _ => by rw [exsF]; trivial
  | x :: l, h, hx => by
    rw [exsF]
    rw [List.length_cons] at h
    exact ⟨h, hx x (by simp), exsF_of (by omega) fun y q => hx y (by simp [q])⟩
theorem argP_al : Al exsF argP := fun u l v hu e => by
  have := lis_al exP_lo exP_al (fun _ _ _ h => exP_len h) u l v hu e
  exact exsF_of this.1 this.2
theorem stm_few {kd ln : Int} {nm fl cl : List UInt8} {ty : Ty} {ks : List Ex} (h : exsF ks) : (stm kd ln nm fl cl ty ks).few := by
  unfold stm
  rw [St.few, stsF]
  exact ⟨h, trivial, trivial⟩
theorem one_few {x : Ex} (h : x.few) : exsF [x] := exsF_of (by simp [mostT]) fun y q => by rw [List.mem_singleton.1 q]; exact h
theorem two_few {x y : Ex} (h : x.few) (h2 : y.few) : exsF [x, y] := exsF_of (by simp [mostT]) fun z q => by
  rcases List.mem_cons.1 q with rfl | q
  · exact h
  · rw [List.mem_singleton.1 q]; exact h2
theorem nil_few : exsF [] := by rw [exsF]; trivial
theorem semi_al {s : St} (h : s.few) : Al St.few (semi s) := Al.takeS [59] (Al.ok h)
theorem setP_al (ln : Int) (nm : List UInt8) : Al St.few (setP ln nm) :=
  Al.ite (p := fun u => isW wInput u = true) (Al.tl0 (f := fun v => takeS [40] v fun v => takeS [41] v fun w => .ok (stm 9 ln nm [] [] ty0 []) w) (Al.takeS [40] (Al.takeS [41] (Al.ok (stm_few nil_few)))))
    (Al.ite (p := fun u => isC u = true) (Al.tl (k := fun t v => (argP v.tail).bind fun l v => .ok (stm 5 ln nm [] t.tx ty0 l) v) fun t => Al.tl0 (f := fun v => (argP v).bind fun l v => .ok (stm 5 ln nm [] t.tx ty0 l) v) (Al.bind argP_lo.m argP_al fun _l q => Al.ok (stm_few q))) (Al.bind exP_lo.m exP_al fun _x q => Al.ok (stm_few (one_few q))))
theorem nmdK_al (ln : Int) (t : To) : Al St.few (nmdK ln t) :=
  Al.ite (p := fun u => isS [91] u = true) (Al.tl0 (f := fun v => (exP v).bind fun x w => takeS [93] w fun z => takeS [61] z fun y => (exP y).bind fun e q => .ok (stm 3 ln t.tx [] [] ty0 [x, e]) q) (Al.bind exP_lo.m exP_al fun _x q => Al.takeS [93] (Al.takeS [61] (Al.bind exP_lo.m exP_al fun _e q2 => Al.ok (stm_few (two_few q q2))))))
    (Al.ite (p := fun u => isS [46] u = true) (Al.tl0 (f := fun v => takeK 1 v fun f w => takeS [61] w fun z => (exP z).bind fun x q => .ok (stm 4 ln t.tx f.tx [] ty0 [x]) q) (Al.takeK 1 fun _f => Al.takeS [61] (Al.bind exP_lo.m exP_al fun _x q => Al.ok (stm_few (one_few q)))))
      (Al.takeS [61] (setP_al ln t.tx)))
theorem nmdP_al (ln : Int) : Al St.few (nmdP ln) :=
  Al.ite (p := fun u => isC u = true) (Al.tl (k := fun t v => (argP v.tail).bind fun l v => .ok (stm 5 ln [] [] t.tx ty0 l) v) fun t => Al.tl0 (f := fun v => (argP v).bind fun l v => .ok (stm 5 ln [] [] t.tx ty0 l) v) (Al.bind argP_lo.m argP_al fun _l q => Al.ok (stm_few q))) (Al.takeK 1 fun t => nmdK_al ln t)
theorem varP_al (ln : Int) : Al St.few (varP ln) :=
  Al.takeK 1 fun t => Al.bind tyP_lo.m (Al.any tyP) fun ty _ => Al.ite (p := fun u => isS [61] u = true) (Al.tl0 (f := fun v => (exP v).bind fun x z => .ok (stm 1 ln t.tx [] [] ty [x]) z) (Al.bind exP_lo.m exP_al fun _x q => Al.ok (stm_few (one_few q)))) (Al.ok (stm_few nil_few))
theorem hdP_al : Al St.few hdP := fun u x v hu e => by
  have ht : u.tail.length ≤ mostT := Nat.le_trans (by simp) hu
  unfold hdP at e
  split at e
  · obtain ⟨y, w, e1, e⟩ := bind_is e
    injection e with e _
    subst e
    exact stm_few (one_few (exP_al _ _ _ ht e1))
  · split at e
    · obtain ⟨y, w, e1, e⟩ := bind_is e
      injection e with e _
      subst e
      exact stm_few (one_few (exP_al _ _ _ ht e1))
    · split at e
      · exact Al.bind (varP_lo _).m (varP_al _) (fun s q => semi_al q) _ _ _ ht e
      · split at e
        · exact Al.takeS [40] (Al.bind exP_lo.m exP_al fun x q => Al.takeS [41] (semi_al (stm_few (one_few q)))) _ _ _ ht e
        · split at e
          · split at e
            · exact semi_al (stm_few nil_few) _ _ _ ht e
            · exact Al.bind exP_lo.m exP_al (fun x q => semi_al (stm_few (one_few q))) _ _ _ ht e
          · exact Al.bind (nmdP_lo _).m (nmdP_al _) (fun s q => semi_al q) _ _ _ hu e
theorem setB_few {s : St} {b : List St} (h : s.few) (hb : stsF b) : (s.setB b).few := by
  obtain ⟨kd, ln, nm, fl, cl, ty, ks, bd, el⟩ := s
  rw [St.setB]
  rw [St.few] at h ⊢
  exact ⟨h.1, hb, h.2.2⟩
theorem setE_few {s : St} {b : List St} (h : s.few) (hb : stsF b) : (s.setE b).few := by
  obtain ⟨kd, ln, nm, fl, cl, ty, ks, bd, el⟩ := s
  rw [St.setE]
  rw [St.few] at h ⊢
  exact ⟨h.1, h.2.1, hb⟩
theorem sta_al : ∀ n, Al St.few (staP n) ∧ Al stsF (blkP n) ∧ ∀ u l v, u.length ≤ mostT → lstP n u = .ok l v → l.length + v.length + 1 ≤ u.length ∧ stsF l
  | 0 => ⟨Al.out, Al.out, fun u l v _ e => by cases e⟩
  | n + 1 => by
    obtain ⟨hs, hb, hl⟩ := sta_al n
    obtain ⟨ms, mb, ml⟩ := sta_nn n
    refine ⟨?_, ?_, fun u l v hu e => ?_⟩
    · show Al St.few (fun u => staP (n + 1) u)
      simp only [staP]
      refine Al.bind hdP_lo.m hdP_al fun s q => ?_
      by_cases h6 : s.kd = 6
      · simp only [if_pos h6]
        exact Al.bind mb.m hb fun b qb => Al.ite (p := fun u => isW wElse u = true) (Al.tl0 (f := fun w => (blkP n w).bind fun e z => .ok ((s.setB b).setE e) z) (Al.bind mb.m hb fun e qe => Al.ok (setE_few (setB_few q qb) qe))) (Al.ok (setB_few q qb))
      · simp only [if_neg h6]
        by_cases h7 : s.kd = 7
        · simp only [if_pos h7]
          exact Al.bind mb.m hb fun b qb => Al.ok (setB_few q qb)
        · simp only [if_neg h7]
          exact Al.ok q
    · show Al stsF (fun u => blkP (n + 1) u)
      simp only [blkP]
      exact Al.takeS [123] fun u l v hu e => (hl u l v hu e).2
    · rw [lstP] at e
      split at e
      · rename_i hq
        have := tail_len (isS_ne hq)
        injection e with e1 e2
        subst e1 e2
        exact ⟨by simp; omega, by rw [stsF]; trivial⟩
      · obtain ⟨s, w, e1, e⟩ := bind_is e
        obtain ⟨l2, w2, e2, e⟩ := bind_is e
        have hw := (enoughS n).1 u |>.2 _ _ e1
        have := hl _ _ _ (by omega) e2
        injection e with e3 e4
        subst e3 e4
        refine ⟨by rw [List.length_cons]; omega, ?_⟩
        rw [stsF]
        exact ⟨by omega, hs _ _ _ hu e1, this.2⟩
theorem blP_al : Al stsF blP := Al.fuel (F := fun n => blkP n) _ fun n => (sta_al n).2.1
theorem fld_al : ∀ n u l v, fldP n u = .ok l v → l.length + v.length ≤ u.length
  | 0, _, _, _, e => by cases e
  | n + 1, u, l, v, e => by
    rw [fldP] at e
    split at e
    · injection e with e1 e2
      subst e1 e2
      simp
    · obtain ⟨h1, e⟩ := takeK_len e
      obtain ⟨h2, e⟩ := takeW_len e
      obtain ⟨h3, e⟩ := takeS_len e
      have := tail_len h1
      have := tail_len h2
      have := tail_len h3
      obtain ⟨l2, w2, e2, e⟩ := bind_is e
      have := fld_al n _ _ _ e2
      injection e with e3 e4
      subst e3 e4
      rw [List.length_cons]
      omega
theorem scP_al : Al Sc.few scP := Al.takeW wType (Al.takeK 1 fun t => Al.takeW wStruct (Al.takeS [123] (Al.bind (P := fun l : List (List UInt8) => l.length ≤ mostT) (Lo.fuel (F := fun n => fldP n) (F' := fun n => fldP n) (fun y => y.length + 1) (fun y => y.length + 1) fld_lo).m (fun u l v hu e => by have := fld_al _ _ _ _ e; omega) fun l q => Al.ok q)))
theorem dcP_al : Al Dc.few dcP := fun u x v hu e => by
  unfold dcP at e
  exact Al.takeW wFunc (Al.takeK 1 fun t => Al.takeS [40] (Al.bind (lisP_lo pmP_lo).m (lis_al (P := fun _ => True) pmP_lo (Al.any pmP) (fun _ _ _ h => pmP_len h)) fun ps q => Al.bind rsP_lo.m (Al.any rsP) fun rs _ => Al.bind blP_lo.m blP_al fun b qb => Al.ok (P := Dc.few) (x := ⟨t.tx, (hd u).ln, ps, rs, b⟩) ⟨q.1, qb⟩)) u x v hu e
theorem pg_al : ∀ n x u y v, pgP n x u = .ok y v → u.length ≤ mostT → x.ss.length + x.fs.length + u.length ≤ mostT → (∀ s ∈ x.ss, s.few) → (∀ d ∈ x.fs, d.few) → y.few
  | 0, _, _, _, _, e, _, _, _, _ => by cases e
  | n + 1, x, u, y, v, e, hu, hl, hs, hd => by
    rw [pgP] at e
    split at e
    · injection e with e _
      subst e
      exact ⟨by omega, hs, hd⟩
    · split at e
      · obtain ⟨s, w, e1, e⟩ := bind_is e
        have := scP_len e1
        exact pg_al n _ _ _ _ e (by omega) (by simp; omega) (fun t q => (List.mem_append.1 q).elim (hs t) (fun e => by rw [List.mem_singleton.1 e]; exact scP_al _ _ _ hu e1)) hd
      · obtain ⟨s, w, e1, e⟩ := bind_is e
        have := dcP_len e1
        exact pg_al n _ _ _ _ e (by omega) (by simp; omega) hs (fun t q => (List.mem_append.1 q).elim (hd t) (fun e => by rw [List.mem_singleton.1 e]; exact dcP_al _ _ _ hu e1))
theorem proP_few {u v : List To} {y : Pg} (hu : u.length ≤ mostT) (h : proP u = .ok y v) : y.few := pg_al _ _ _ _ _ h hu (by simpa using hu) (fun _ q => absurd q (by simp)) fun _ q => absurd q (by simp)
end Go.Proofs.Ytcgohlooelojfaa
