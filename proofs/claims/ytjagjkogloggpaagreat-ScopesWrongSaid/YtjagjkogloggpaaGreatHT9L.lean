/-
  Merged for a claim: T9L.
-/
import Derived.Test.YtjagjkogloggpaaGreatHJ21
namespace Go.Proofs.YtjagjkogloggpaaGreat
open Go Go.RowKit

section
variable {b : List UInt8} {s : RS}
theorem tx9_has (s : RS × Unit) (hv : Vd b s.1) (hn : (tx9 b s).2.1.no = false) : Tr b s.1 (txB (tx9 b s).1) (tx9 b s).2.1 := (tx_has hv hn).1
theorem nm9_has (s : RS × Unit) (hv : Vd b s.1) (hn : (nm9 b s).2.1.no = false) : Tr b s.1 (nB false (nm9 b s).1) (nm9 b s).2.1 := nm_has hv hn
theorem lsP_flat {δ τ : Type} {one : RS × τ → δ × (RS × τ)} {f : δ → List UInt8} {most : Int} (h : ∀ s : RS × τ, Vd b s.1 → (one s).2.1.no = false → Tr b s.1 (f (one s).1) (one s).2.1) {s : RS × τ} (hv : Vd b s.1) (hn : (lsP b most one s).2.1.no = false) :
    Tr b s.1 (nB false (lsP b most one s).1.length ++ (lsP b most one s).1.flatMap f) (lsP b most one s).2.1 := by
  have t := lsP_has (en := fun _ x _ => f x) h hv hn
  obtain ⟨_, _, h3⟩ := lsP_yes hn
  have hn2 := hn
  rw [h3] at hn2
  rw [goE_flat _ _ hn2, ← h3] at t
  exact t
theorem va_has (hv : Vd b s) (h : (vaX b s).2.no = false) : Tr b s (encV (vaX b s).1) (vaX b s).2 := by
  unfold vaX at h ⊢
  by_cases h3 : oxX b (txT b s) = 3
  · rw [if_pos h3] at h ⊢
    have n1 := (nm_yes h).1
    have n2 := (ox_yes n1).1
    have t1 := (tx_has hv n2).1
    have t2 := ox_has t1.vd n1
    have t3 := nm_has t2.vd h
    have t := t1.trans (t2.trans t3)
    rw [h3] at t
    unfold encV
    dsimp only
    rw [if_pos rfl]
    exact t
  · rw [if_neg h3] at h ⊢
    by_cases h4 : oxX b (txT b s) = 4
    · rw [if_pos h4] at h ⊢
      have n1 := (nm_yes (lsP_yes h).1).1
      have n2 := (tx_yes n1).1
      have n3 := (ox_yes n2).1
      have t1 := (tx_has hv n3).1
      have t2 := ox_has t1.vd n2
      have t3 := (tx_has t2.vd n1).1
      have t4 := lsP_flat (f := txB) (most := 8) (one := tx9 b) (s := (txT b (oxS b (txT b s)), ())) tx9_has t3.vd h
      have t := t1.trans (t2.trans (t3.trans t4))
      rw [h4] at t
      unfold encV
      dsimp only
      rw [if_neg (by decide), if_pos rfl]
      exact t
    · rw [if_neg h4] at h ⊢
      have n1 := (ox_yes h).1
      have t1 := (tx_has hv n1).1
      have t2 := ox_has t1.vd h
      unfold encV
      dsimp only
      rw [if_neg h3, if_neg h4]
      exact t1.trans t2
/-- what is known of a list of spans that was read -/
def SpG (l : List Sp) : Prop := rightL l = true ∧ ∀ y ∈ l, ∀ x ∈ y.a, x.Rng
def enVS (_ : List (List Sp)) (v : Vr) (t : List (List Sp)) : List UInt8 := encV v ++ ownS (t.getLastD [])
theorem plc9_has (s : RS × List (List Sp)) (hv : Vd b s.1) (hn : (plc9 b s).2.1.no = false) : Tr b s.1 (enVS s.2 (plc9 b s).1 (plc9 b s).2.2) (plc9 b s).2.1 := by
  have hn' : (spS b (vaX b s.1).2).no = false := hn
  have t1 := va_has hv (sp_yes hn')
  have t2 := (sp_has t1.vd hn').1
  have := t1.trans t2
  unfold enVS plc9
  dsimp only
  rw [List.getLastD_concat]
  exact this
set_option maxRecDepth 100000 in
theorem plc_list : ∀ (n : Nat) (s : RS × List (List Sp)), Vd b s.1 → (goL (fun q => q.1.no) (plc9 b) n s).2.1.no = false →
    ∃ new : List (List Sp), (goL (fun q => q.1.no) (plc9 b) n s).2.2 = s.2 ++ new ∧ new.length = n ∧ goE (plc9 b) enVS n s = ((goL (fun q => q.1.no) (plc9 b) n s).1.zip new).flatMap encVS ∧ ∀ l ∈ new, SpG l
  | 0, s, _, _ => ⟨[], by simp [goL], rfl, by simp [goE, goL], fun l hl => absurd hl (by simp)⟩
  | n + 1, s, hv, hn => by
    have e := goL_yes (no := fun q : RS × List (List Sp) => q.1.no) (n + 1) s hn
    rw [goL_step (plc9 b) n s e] at hn ⊢
    have hn2 := goL_yes (no := fun q : RS × List (List Sp) => q.1.no) n _ hn
    have t1 := plc9_has s hv hn2
    have hn' : (spS b (vaX b s.1).2).no = false := hn2
    have t0 := va_has hv (sp_yes hn')
    have g := (sp_has t0.vd hn').2
    obtain ⟨new, e1, e2, e3, e4⟩ := plc_list n (plc9 b s).2 t1.vd hn
    have e0 : (plc9 b s).2.2 = s.2 ++ [spX b (vaX b s.1).2] := rfl
    refine ⟨spX b (vaX b s.1).2 :: new, ?_, by rw [List.length_cons, e2], ?_, fun l hl => ?_⟩
    · dsimp only
      rw [e1, e0, List.append_assoc]; rfl
    · dsimp only
      rw [show goE (plc9 b) enVS (n + 1) s = enVS s.2 (plc9 b s).1 (plc9 b s).2.2 ++ goE (plc9 b) enVS n (plc9 b s).2 from rfl, e3, List.zip_cons_cons, List.flatMap_cons]
      congr 1
      unfold enVS
      rw [e0, List.getLastD_concat]
      rfl
    · rcases List.mem_cons.1 hl with rfl | hl
      · exact g
      · exact e4 l hl
theorem pc_has (a : Int) (hv : Vd b s) (h : (pcX b a s).2.no = false) : Tr b s (enP9 a (pcX b a s).1) (pcX b a s).2 ∧ (∀ l ∈ (pcX b a s).1.ss, SpG l) := by
  have h' : (lsP b 64 (plc9 b) (nmS b (nmS b (txT b s)), [])).2.1.no = false := h
  obtain ⟨n1, _, h3⟩ := lsP_yes h'
  have n2 := (nm_yes n1).1
  have n3 := (nm_yes n2).1
  have n4 := (nm_yes n3).1
  have t1 := (tx_has hv n4).1
  have t2 := nm_has t1.vd n3
  have t3 := nm_has t2.vd n2
  have t4 := lsP_has (en := enVS) (most := 64) (one := plc9 b) (s := (nmS b (nmS b (txT b s)), [])) plc9_has t3.vd h'
  have h4 := h'
  rw [h3] at h4
  have t5 := nm_has t3.vd (lsP_yes h').1
  obtain ⟨new, e1, e2, e3, e4⟩ := plc_list _ _ t5.vd h4
  rw [← h3] at e1 e3
  rw [e3] at t4
  have e1' : (pcX b a s).1.ss = new := e1
  refine ⟨?_, fun l hl => e4 l (by rw [← e1']; exact hl)⟩
  have t := t1.trans (t2.trans (t3.trans t4))
  have q1 : (pcX b a s).1.fr - a = nmX b (txT b s) := by show a + nmX b (txT b s) - a = _; omega
  have q2 : (pcX b a s).1.tt - (pcX b a s).1.fr = nmX b (nmS b (txT b s)) := by show a + nmX b (txT b s) + nmX b (nmS b (txT b s)) - (a + nmX b (txT b s)) = _; omega
  unfold enP9
  rw [q1, q2, e1']
  exact t
def enPl (a : Int) (p : Plc) (_ : Int) : List UInt8 := enP9 a p
theorem get9_has (s : RS × Int) (hv : Vd b s.1) (hn : (get9 b s).2.1.no = false) : Tr b s.1 (enPl s.2 (get9 b s).1 (get9 b s).2.2) (get9 b s).2.1 := (pc_has s.2 hv hn).1
set_option maxRecDepth 100000 in
theorem get_list : ∀ (n : Nat) (s : RS × Int), Vd b s.1 → (goL (fun q => q.1.no) (get9 b) n s).2.1.no = false →
    goE (get9 b) enPl n s = enP9s s.2 (goL (fun q => q.1.no) (get9 b) n s).1 ∧ ∀ p ∈ (goL (fun q => q.1.no) (get9 b) n s).1, ∀ l ∈ p.ss, SpG l
  | 0, s, _, _ => ⟨rfl, fun p hp => absurd hp (by simp [goL])⟩
  | n + 1, s, hv, hn => by
    have e := goL_yes (no := fun q : RS × Int => q.1.no) (n + 1) s hn
    rw [goL_step (get9 b) n s e] at hn ⊢
    have hn2 := goL_yes (no := fun q : RS × Int => q.1.no) n _ hn
    have t1 := get9_has s hv hn2
    have g := (pc_has s.2 hv hn2).2
    obtain ⟨e1, e2⟩ := get_list n (get9 b s).2 t1.vd hn
    refine ⟨?_, fun p hp => ?_⟩
    · dsimp only
      rw [show goE (get9 b) enPl (n + 1) s = enPl s.2 (get9 b s).1 (get9 b s).2.2 ++ goE (get9 b) enPl n (get9 b s).2 from rfl, e1]; rfl
    · rcases List.mem_cons.1 hp with rfl | hp
      · exact g
      · exact e2 p hp
theorem pt9_has (s : RS × Unit) (hv : Vd b s.1) (hn : (pt9 b s).2.1.no = false) : Tr b s.1 (encQ (pt9 b s).1) (pt9 b s).2.1 := by
  have h' : (lsP b 64 (nm9 b) (nmS b (nmS b s.1), ())).2.1.no = false := hn
  obtain ⟨n1, _, _⟩ := lsP_yes h'
  have n2 := (nm_yes n1).1
  have n3 := (nm_yes n2).1
  have t1 := nm_has hv n3
  have t2 := nm_has t1.vd n2
  have t3 := lsP_flat (f := nB false) (most := 64) (one := nm9 b) (s := (nmS b (nmS b s.1), ())) nm9_has t2.vd h'
  exact t1.trans (t2.trans t3)
/-- what is got of bytes is put as it stood there -/
theorem got_has9 {i : Nat} (h : gtE b i = 0) : right9 (gtL b i).1 (gtQ b i).1 = true ∧ (∀ p ∈ (gtL b i).1, ∀ l ∈ p.ss, SpG l) ∧ ∃ n : Nat, (gtQ b i).2.1.at_ = n ∧ n = i + (own9 (gtL b i).1 (gtQ b i).1).length ∧ Sd b i (own9 (gtL b i).1 (gtQ b i).1) := by
  unfold gtE at h
  split at h
  · omega
  rename_i hi
  split at h
  · rename_i hok
    unfold gtOk at hok
    rw [Bool.and_eq_true] at hok
    have h1 : (gtQ b i).2.1.no = false := by simpa using hok.1
    have h2 : (gtL b i).2.1.no = false := (nm_yes (lsP_yes h1).1).1
    have hv : Vd b (⟨(i : Int), false⟩ : RS) := ⟨i, rfl, by omega⟩
    have t1 := lsP_has (en := enPl) (most := 64) (one := get9 b) (s := ((⟨(i : Int), false⟩ : RS), (0 : Int))) get9_has hv h2
    have h2' : (lsP b 64 (get9 b) ((⟨(i : Int), false⟩ : RS), (0 : Int))).2.1.no = false := h2
    obtain ⟨_, _, h3⟩ := lsP_yes h2'
    have t0 := nm_has hv (lsP_yes h2').1
    have h4 := h2'
    rw [h3] at h4
    obtain ⟨e1, e2⟩ := get_list _ _ t0.vd h4
    rw [← h3] at e1 e2
    rw [e1] at t1
    have t2 := lsP_flat (f := encQ) (most := 1000) (one := pt9 b) (s := ((gtL b i).2.1, ())) pt9_has t1.vd h1
    have t := t1.trans t2
    rw [List.append_assoc] at t
    obtain ⟨_, _, j, q1, q2, q3⟩ := t
    have : j = i := by have : (i : Int) = j := q1; omega
    subst this
    exact ⟨hok.2, e2, _, q3, rfl, q2⟩
  · omega
end
section
variable {b : List UInt8} {i : Nat}
theorem riseB_len2 : ∀ {l : List Int} {a most : Int}, riseB most a l = true → l = [] ∨ (l.length : Int) ≤ most - a - 1
  | [], _, _, _ => .inl rfl
  | x :: l, a, most, h => by
    have h' : (decide (a < x ∧ x < most) && riseB most x l) = true := h
    rw [Bool.and_eq_true] at h'
    have h1 := of_decide_eq_true h'.1
    right
    rw [List.length_cons]
    rcases riseB_len2 h'.2 with e | e
    · rw [e, List.length_nil]; omega
    · omega
theorem name_255 {l : List UInt8} (h : nameB l = true) : l.length ≤ 255 := by
  unfold nameB at h
  rw [Bool.and_eq_true] at h
  have := of_decide_eq_true h.1
  omega
theorem plain_of {v : Vr} (h : plainB v = true) : v.tn = [] ∧ v.fs = [] := by
  unfold plainB at h
  rw [Bool.and_eq_true] at h
  exact ⟨of_decide_eq_true h.1, List.eq_nil_of_length_eq_zero (of_decide_eq_true h.2)⟩
theorem encV_mk (nm : List UInt8) (kd n : Int) (tn : List UInt8) (wd : Int) (fs : List (List UInt8)) : encV ⟨nm, kd, n, tn, wd, fs⟩ = txB nm ++ ([UInt8.ofNat kd.toNat] ++ (if kd = 3 then nB false n else if kd = 4 then txB tn ++ (nB false fs.length ++ fs.flatMap txB) else [])) := rfl
theorem va_put {v : Vr} (hv : varB v = true) (h : Sd b i (encV v)) : vaX b (rs i) = (v, rs (i + (encV v).length)) := by
  obtain ⟨nm, kd, n, tn, wd, fs⟩ := v
  unfold varB at hv
  rw [Bool.and_eq_true, Bool.and_eq_true] at hv
  obtain ⟨hnm, hwd, hk⟩ := hv
  have hwd := of_decide_eq_true hwd
  unfold wordsV at hwd
  rw [encV_mk] at h ⊢
  dsimp only at hnm hwd
  obtain ⟨s1, s2⟩ := Sd.app.1 h
  obtain ⟨a1, a2⟩ := tx_put s1 (name_255 hnm)
  obtain ⟨s3, s4⟩ := Sd.app.1 s2
  obtain ⟨b1, b2⟩ := ox_put s3
  rw [List.length_singleton] at s4
  unfold kindB at hk
  dsimp only at hk
  have hkd : 0 ≤ kd ∧ kd < 256 := by
    split at hk
    · omega
    · split at hk
      · omega
      · split at hk
        · omega
        · cases hk
  have hk8 : ((UInt8.ofNat kd.toNat).toNat : Int) = kd := by rw [UInt8.toNat_ofNat']; omega
  rw [hk8] at b1
  unfold vaX
  rw [a2, b1, b2, a1]
  split at hk
  · rename_i q
    rw [Bool.and_eq_true] at hk
    obtain ⟨e1, e2⟩ := plain_of hk.1
    have e3 := of_decide_eq_true hk.2
    dsimp only at e1 e2 e3
    rw [if_neg (by omega), if_neg (by omega)]
    rw [if_neg (by omega), if_neg (by omega)] at hwd
    rw [if_neg (by omega), if_neg (by omega), e1, e2, e3, hwd, List.length_append, List.length_append, List.length_singleton, List.length_nil]
    simp only [Nat.add_assoc, Nat.add_zero]
  · split at hk
    · rename_i q
      rw [Bool.and_eq_true] at hk
      obtain ⟨e1, e2⟩ := plain_of hk.1
      have e3 := of_decide_eq_true hk.2
      dsimp only at e1 e2 e3
      rw [if_pos q] at hwd s4 ⊢
      rw [if_pos q]
      obtain ⟨c1, c2⟩ := nm_put s4 (by omega) (by omega)
      rw [c1, c2, e1, e2, hwd, q, List.length_append, List.length_append, List.length_singleton]
      simp only [Prod.mk.injEq, true_and]
      congr 1
      omega
    · split at hk
      · rename_i q3 q
        rw [Bool.and_eq_true, Bool.and_eq_true] at hk
        have e3 := of_decide_eq_true hk.1
        have hf := hk.2.2
        unfold fldB at hf
        rw [Bool.and_eq_true] at hf
        have hfl := of_decide_eq_true hf.1
        have hfa := List.all_eq_true.1 hf.2
        rw [if_neg q3, if_pos q] at hwd s4 ⊢
        rw [if_neg q3, if_pos q]
        obtain ⟨s5, s6⟩ := Sd.app.1 s4
        obtain ⟨c1, c2⟩ := tx_put s5 (name_255 hk.2.1)
        have hL := lsP_put (b := b) (one := tx9 b) (d := fun x : List UInt8 => x) (tn := fun _ _ => ()) (en := fun _ y => txB y) (P := fun _ y => y.length ≤ 255) (most := 8) (fun t y i hP hS => by
            obtain ⟨x1, x2⟩ := tx_put hS hP
            unfold tx9
            dsimp only
            rw [x1, x2]) (ys := fs) (t := ()) (i := i + (txB nm).length + 1 + (txB tn).length) (by omega) (by omega) (each_all fs () (fun y hy => name_255 (hfa y hy))) (by rw [encs_flat]; exact s6)
        rw [encs_flat] at hL
        rw [c1, c2, hL, List.map_id']
        dsimp only
        rw [e3, hwd, q]
        simp only [Prod.mk.injEq, true_and, List.length_append, List.length_cons, List.length_nil]
        congr 1
        omega
      · cases hk
theorem nil_foldl {α β : Type} (f : α → β) : ∀ (l : List α) (t : List β), l.foldl (fun t y => t ++ [f y]) t = t ++ l.map f
  | [], t => by simp
  | x :: l, t => by rw [List.foldl_cons, nil_foldl f l, List.map_cons, List.append_assoc]; rfl
theorem pc_put {a : Int} {p : Plc} (h0 : 0 ≤ a) (hp : okL a p = true) (hg : ∀ l ∈ p.ss, ∀ y ∈ l, ∀ x ∈ y.a, x.Rng) (h : Sd b i (enP9 a p)) : pcX b a (rs i) = (p, rs (i + (enP9 a p).length)) := by
  obtain ⟨nm, fr, tt, vs, ss⟩ := p
  unfold okL at hp
  rw [Bool.and_eq_true, Bool.and_eq_true] at hp
  obtain ⟨hr, hnm, hh⟩ := hp
  have hr := of_decide_eq_true hr
  unfold holdB at hh
  rw [Bool.and_eq_true] at hh
  have hl := of_decide_eq_true hh.1
  have hz := List.all_eq_true.1 hh.2
  unfold enP9 at h ⊢
  dsimp only at hr hnm hl hz hg h ⊢
  obtain ⟨s1, s2⟩ := Sd.app.1 h
  obtain ⟨s3, s4⟩ := Sd.app.1 s2
  obtain ⟨s5, s6⟩ := Sd.app.1 s4
  obtain ⟨a1, a2⟩ := tx_put s1 (name_255 hnm)
  obtain ⟨b1, b2⟩ := nm_put s3 (by omega) (by omega)
  obtain ⟨c1, c2⟩ := nm_put s5 (by omega) (by omega)
  have hzl : (vs.zip ss).length = vs.length := by rw [List.length_zip]; omega
  have hL := lsP_put (b := b) (one := plc9 b) (d := fun q : Vr × List Sp => q.1) (tn := fun t q => t ++ [q.2]) (en := fun _ q => encVS q) (P := fun _ q => varB q.1 = true ∧ rightL q.2 = true ∧ ∀ y ∈ q.2, ∀ x ∈ y.a, x.Rng) (most := 64) (fun t q i hP hS => by
      unfold encVS at hS ⊢
      obtain ⟨z1, z2⟩ := Sd.app.1 hS
      have x1 := va_put hP.1 z1
      obtain ⟨y1, y2⟩ := sp_put z2 hP.2.1 hP.2.2
      unfold plc9
      dsimp only
      rw [x1]
      dsimp only
      rw [y1, y2, List.length_append, Nat.add_assoc]) (ys := vs.zip ss) (t := []) (i := i + (txB nm).length + (nB false (fr - a)).length + (nB false (tt - fr)).length) (by rw [hzl]; omega) (by omega)
      (each_all _ _ (fun q hq => by
        have h1 := hz q hq
        unfold vsB at h1
        rw [Bool.and_eq_true, Bool.and_eq_true] at h1
        exact ⟨h1.1, h1.2.1, hg q.2 (List.of_mem_zip hq).2⟩)) (by rw [encs_flat, hzl]; exact s6)
  rw [encs_flat, nil_foldl, List.nil_append] at hL
  have e1 : (vs.zip ss).map (fun q : Vr × List Sp => q.1) = vs := List.map_fst_zip (by omega)
  have e2 : (vs.zip ss).map (fun q : Vr × List Sp => q.2) = ss := List.map_snd_zip (by omega)
  rw [e1, e2, hzl] at hL
  unfold pcX
  rw [a1, a2, b1, b2, c1, c2, hL]
  simp only [Prod.mk.injEq, Plc.mk.injEq, true_and, List.length_append]
  exact ⟨⟨by omega, by omega, trivial⟩, by congr 1; omega⟩
theorem each_ok : ∀ {ls : List Plc} {a : Int}, 0 ≤ a → okLs a ls = true → (∀ p ∈ ls, ∀ l ∈ p.ss, ∀ y ∈ l, ∀ x ∈ y.a, x.Rng) → Each (fun (_ : Int) (p : Plc) => p.tt) (fun a p => 0 ≤ a ∧ okL a p = true ∧ ∀ l ∈ p.ss, ∀ y ∈ l, ∀ x ∈ y.a, x.Rng) a ls
  | [], _, _, _, _ => trivial
  | p :: ls, a, h0, h, hg => by
    have h' : (okL a p && okLs p.tt ls) = true := h
    rw [Bool.and_eq_true] at h'
    refine ⟨⟨h0, h'.1, hg p List.mem_cons_self⟩, each_ok ?_ h'.2 fun q hq => hg q (List.mem_cons_of_mem _ hq)⟩
    have h1 := h'.1
    unfold okL at h1
    rw [Bool.and_eq_true] at h1
    have := of_decide_eq_true h1.1
    show 0 ≤ p.tt
    omega
theorem encs_pl : ∀ (ls : List Plc) (a : Int), encs (fun (_ : Int) (p : Plc) => p.tt) (fun a p => enP9 a p) a ls = enP9s a ls
  | [], _ => rfl
  | p :: ls, a => by rw [encs, encs_pl ls, enP9s]
theorem pt_put {q : Pnt} (h64 : 0 ≤ q.fn ∧ q.fn ≤ 64) (hln : 0 ≤ q.ln ∧ q.ln ≤ 1048576) (hn : q.sc.length ≤ 64) (hsc : ∀ x ∈ q.sc, 0 ≤ x ∧ x ≤ 64) (h : Sd b i (encQ q)) : ptX b (rs i) = (q, rs (i + (encQ q).length)) := by
  obtain ⟨fn, ln, sc⟩ := q
  unfold encQ at h ⊢
  dsimp only at h64 hln hn hsc h ⊢
  obtain ⟨s1, s2⟩ := Sd.app.1 h
  obtain ⟨s3, s4⟩ := Sd.app.1 s2
  obtain ⟨a1, a2⟩ := nm_put s1 (by omega) (by omega)
  obtain ⟨b1, b2⟩ := nm_put s3 (by omega) (by omega)
  have hL := lsP_put (b := b) (one := nm9 b) (d := fun x : Int => x) (tn := fun _ _ => ()) (en := fun _ y => nB false y) (P := fun _ y => 0 ≤ y ∧ y ≤ 64) (most := 64) (fun t y i hP hS => by
      obtain ⟨x1, x2⟩ := nm_put hS hP.1 (by omega)
      unfold nm9
      dsimp only
      rw [x1, x2]) (ys := sc) (t := ()) (i := i + (nB false fn).length + (nB false ln).length) (by omega) (by omega) (each_all sc () hsc) (by rw [encs_flat]; exact s4)
  rw [encs_flat] at hL
  unfold ptX
  rw [a1, a2, b1, b2, hL, List.map_id']
  simp only [Prod.mk.injEq, true_and, List.length_append]
  congr 1
  omega
/-- what is put of a right table is got -/
theorem got_put9 {ls : List Plc} {qs : List Pnt} (hr : right9 ls qs = true) (hg : ∀ p ∈ ls, ∀ l ∈ p.ss, ∀ y ∈ l, ∀ x ∈ y.a, x.Rng) (h : Sd b i (own9 ls qs)) :
    gtE b i = 0 ∧ (gtL b i).1 = ls ∧ (gtQ b i).1 = qs ∧ (gtQ b i).2.1.at_ = ((i + (own9 ls qs).length : Nat) : Int) := by
  have hle := h.le
  have hr0 := hr
  obtain ⟨⟨hl1, hl2⟩, _, _⟩ := right9_each hr
  unfold right9 at hr
  rw [Bool.and_eq_true, Bool.and_eq_true] at hr
  have hq := List.all_eq_true.1 hr.2.2
  have hv : ∀ p ∈ ls, p.vs.length ≤ 64 := fun p hp => by
    obtain ⟨a, h1⟩ := okLs_mem hr.2.1 p hp
    unfold okL at h1
    rw [Bool.and_eq_true, Bool.and_eq_true] at h1
    have h2 := h1.2.2
    unfold holdB at h2
    rw [Bool.and_eq_true] at h2
    exact (of_decide_eq_true h2.1).1
  unfold own9 at h ⊢
  rw [← List.append_assoc] at h
  obtain ⟨s1, s2⟩ := Sd.app.1 h
  have hL := lsP_put (b := b) (one := get9 b) (d := fun p : Plc => p) (tn := fun (_ : Int) (p : Plc) => p.tt) (en := fun a p => enP9 a p) (P := fun a p => 0 ≤ a ∧ okL a p = true ∧ ∀ l ∈ p.ss, ∀ y ∈ l, ∀ x ∈ y.a, x.Rng) (most := 64) (fun t y i hP hS => by
      have := pc_put hP.1 hP.2.1 hP.2.2 hS
      unfold get9
      dsimp only
      rw [this]) (ys := ls) (t := 0) (i := i) (by omega) (by omega) (each_ok (by omega) hr.2.1 hg) (by rw [encs_pl]; exact s1)
  rw [encs_pl, List.map_id'] at hL
  have hQ := lsP_put (b := b) (one := pt9 b) (d := fun p : Pnt => p) (tn := fun _ _ => ()) (en := fun _ y => encQ y) (P := fun _ q => (0 ≤ q.fn ∧ q.fn ≤ 64) ∧ (0 ≤ q.ln ∧ q.ln ≤ 1048576) ∧ q.sc.length ≤ 64 ∧ ∀ x ∈ q.sc, 0 ≤ x ∧ x ≤ 64) (most := 1000) (fun t y i hP hS => by
      have := pt_put hP.1 hP.2.1 hP.2.2.1 hP.2.2.2 hS
      unfold pt9
      dsimp only
      rw [this]) (ys := qs) (t := ()) (i := i + (nB false ls.length ++ enP9s 0 ls).length) (by omega) (by omega) (each_all qs () (fun q hm => by
        have hq' := hq q hm
        unfold okQ at hq'
        rw [Bool.and_eq_true] at hq'
        have a := of_decide_eq_true hq'.1
        have n := nvs_le hv q.fn.toNat
        have hn : q.sc.length ≤ 64 := by
          rcases riseB_len2 hq'.2 with r | r
          · rw [r]; simp
          · omega
        exact ⟨by omega, by omega, hn, fun x hx => by have := riseB_nn hq'.2 (by omega) x hx; omega⟩)) (by rw [encs_flat]; exact s2)
  rw [encs_flat, List.map_id'] at hQ
  have e1 : gtL b i = (ls, (rs (i + (nB false ls.length ++ enP9s 0 ls).length), ls.foldl (fun (_ : Int) (p : Plc) => p.tt) 0)) := hL
  have e2 : gtQ b i = (qs, (rs (i + (nB false ls.length ++ enP9s 0 ls).length + (nB false qs.length ++ qs.flatMap encQ).length), qs.foldl (fun _ _ => ()) ())) := by
    unfold gtQ
    rw [e1]
    exact hQ
  have e3 : gtE b i = 0 := by
    unfold gtE
    rw [if_neg (by omega), if_pos ?_]
    unfold gtOk
    rw [e1, e2]
    exact hr0
  refine ⟨e3, by rw [e1], by rw [e2], ?_⟩
  rw [e2]
  show ((i + _ + _ : Nat) : Int) = _
  simp only [List.length_append]
  omega
end
end Go.Proofs.YtjagjkogloggpaaGreat
