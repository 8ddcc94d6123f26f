/-
  Merged for a claim: T9A.
-/
import Derived.Test.YtbkfkdiadeaooaaGreatHJ18
namespace Go.Proofs.YtbkfkdiadeaooaaGreat
open Go Go.RowKit

/-- a number of at most so much -/
def dnX (b : List UInt8) (m : Int) (s : RS) : Int := if s.no = true then 0 else if rdE false b s.at_ = 0 then (if rdX false b s.at_ ≤ m then rdX false b s.at_ else 0) else 0
def dnS (b : List UInt8) (m : Int) (s : RS) : RS := if s.no = true then s else if rdE false b s.at_ = 0 then (if rdX false b s.at_ ≤ m then ⟨rdN false b s.at_, false⟩ else ⟨s.at_, true⟩) else ⟨s.at_, true⟩
def lsD {δ τ : Type} (b : List UInt8) (most : Int) (one : RS × τ → δ × (RS × τ)) (s : RS × τ) : List δ × (RS × τ) :=
  goL (fun q => q.1.no) one (dnX b most s.1).toNat (dnS b most s.1, s.2)
def vaD (b : List UInt8) (s : RS) : Vr × RS :=
  if oxX b (txT b s) = 3 then (⟨txX b s, 3, dnX b 16 (oxS b (txT b s)), [], dnX b 16 (oxS b (txT b s)), []⟩, dnS b 16 (oxS b (txT b s)))
  else if oxX b (txT b s) = 4 then (⟨txX b s, 4, 0, txX b (oxS b (txT b s)), dnX b 8 (txT b (oxS b (txT b s))), (lsD b 8 (tx9 b) (txT b (oxS b (txT b s)), ())).1⟩, (lsD b 8 (tx9 b) (txT b (oxS b (txT b s)), ())).2.1)
  else (⟨txX b s, oxX b (txT b s), 0, [], 1, []⟩, oxS b (txT b s))
def plcD (b : List UInt8) (s : RS × List (List Sp)) : Vr × (RS × List (List Sp)) := ((vaD b s.1).1, (spS b (vaD b s.1).2, s.2 ++ [spX b (vaD b s.1).2]))
def farS (t : Int) (s : RS) : RS := if 16777216 < t then { s with no := true } else s
/-- the state behind a place's numbers -/
def pnD (b : List UInt8) (a : Int) (s : RS) : RS := farS (a + dnX b 16777216 (txT b s) + dnX b 16777216 (dnS b 16777216 (txT b s))) (dnS b 16777216 (dnS b 16777216 (txT b s)))
def pcD (b : List UInt8) (a : Int) (s : RS) : Plc × RS :=
  (⟨txX b s, a + dnX b 16777216 (txT b s), a + dnX b 16777216 (txT b s) + dnX b 16777216 (dnS b 16777216 (txT b s)), (lsD b 64 (plcD b) (pnD b a s, [])).1, (lsD b 64 (plcD b) (pnD b a s, [])).2.2⟩, (lsD b 64 (plcD b) (pnD b a s, [])).2.1)
def getD (b : List UInt8) (s : RS × Int) : Plc × (RS × Int) := ((pcD b s.2 s.1).1, ((pcD b s.2 s.1).2, (pcD b s.2 s.1).1.tt))
def nmD (b : List UInt8) (m : Int) (s : RS × Unit) : Int × (RS × Unit) := (dnX b m s.1, (dnS b m s.1, ()))
def ptD (b : List UInt8) (s : RS) : Pnt × RS :=
  (⟨dnX b 64 s, dnX b 1048576 (dnS b 64 s), (lsD b 64 (nmD b 64) (dnS b 1048576 (dnS b 64 s), ())).1⟩, (lsD b 64 (nmD b 64) (dnS b 1048576 (dnS b 64 s), ())).2.1)
def pntD (b : List UInt8) (s : RS × Unit) : Pnt × (RS × Unit) := ((ptD b s.1).1, ((ptD b s.1).2, ()))
def gdL (b : List UInt8) (i : Int) : List Plc × (RS × Int) := lsD b 64 (getD b) (⟨i, false⟩, 0)
def gdQ (b : List UInt8) (i : Int) : List Pnt × (RS × Unit) := lsD b 1000 (pntD b) ((gdL b i).2.1, ())
def gdOk (b : List UInt8) (i : Int) : Bool := !(gdQ b i).2.1.no && right9 (gdL b i).1 (gdQ b i).1
def gdE (b : List UInt8) (i : Int) : Int := if i < 0 ∨ (b.length : Int) < i then 1 else if gdOk b i = true then 0 else 5

section
variable {b : List UInt8} {s : RS} {m : Int}
theorem dn_no (h : s.no = true) : dnX b m s = 0 ∧ dnS b m s = s := ⟨if_pos h, if_pos h⟩
theorem tx_no (h : s.no = true) : txX b s = [] ∧ txT b s = s := ⟨if_pos h, if_pos h⟩
theorem ox_no (h : s.no = true) : oxX b s = 0 ∧ oxS b s = s := ⟨if_pos h, if_pos h⟩
theorem sp_no (h : s.no = true) : spX b s = [] ∧ spS b s = s := ⟨if_pos h, if_pos h⟩
theorem no_f {x : Bool} (h : ¬ x = true) : x = false := by cases x <;> simp_all
theorem dn_yes (h : (dnS b m s).no = false) : s.no = false ∧ rdE false b s.at_ = 0 ∧ rdX false b s.at_ ≤ m ∧ dnX b m s = rdX false b s.at_ ∧ dnS b m s = ⟨rdN false b s.at_, false⟩ := by
  unfold dnS at h
  split at h
  · rename_i q; rw [q] at h; cases h
  · rename_i q
    split at h
    · rename_i q2
      split at h
      · rename_i q3
        exact ⟨no_f q, q2, q3, by unfold dnX; rw [if_neg q, if_pos q2, if_pos q3], by unfold dnS; rw [if_neg q, if_pos q2, if_pos q3]⟩
      · cases h
    · cases h
theorem nm_yes (h : (nmS b s).no = false) : s.no = false ∧ rdE false b s.at_ = 0 ∧ rdX false b s.at_ ≤ 16777216 ∧ nmX b s = rdX false b s.at_ ∧ nmS b s = ⟨rdN false b s.at_, false⟩ := by
  unfold nmS at h
  split at h
  · rename_i q; rw [q] at h; cases h
  · rename_i q
    split at h
    · rename_i q2
      split at h
      · rename_i q3
        exact ⟨no_f q, q2, q3, by unfold nmX; rw [if_neg q, if_pos q2, if_pos q3], by unfold nmS; rw [if_neg q, if_pos q2, if_pos q3]⟩
      · cases h
    · cases h
theorem dn_nm (hm : m ≤ 16777216) (h : (dnS b m s).no = false) : nmX b s = dnX b m s ∧ nmS b s = dnS b m s := by
  obtain ⟨h1, h2, h3, h4, h5⟩ := dn_yes h
  rw [h4, h5]
  unfold nmX nmS
  have hn : ¬ s.no = true := by rw [h1]; decide
  have hm2 : rdX false b s.at_ ≤ 16777216 := by omega
  rw [if_neg hn, if_neg hn, if_pos h2, if_pos h2, if_pos hm2, if_pos hm2]
  exact ⟨rfl, rfl⟩
theorem nm_dn (h : (nmS b s).no = false) (hx : nmX b s ≤ m) : dnX b m s = nmX b s ∧ dnS b m s = nmS b s := by
  obtain ⟨h1, h2, h3, h4, h5⟩ := nm_yes h
  rw [h4] at hx
  rw [h4, h5]
  unfold dnX dnS
  have hn : ¬ s.no = true := by rw [h1]; decide
  rw [if_neg hn, if_neg hn, if_pos h2, if_pos h2, if_pos hx, if_pos hx]
  exact ⟨rfl, rfl⟩
theorem dnX_rng (b : List UInt8) (m : Int) (hm : 0 ≤ m) (s : RS) : 0 ≤ dnX b m s ∧ dnX b m s ≤ m := by
  unfold dnX
  have := rdX_rng b s.at_
  split
  · omega
  · split
    · split <;> omega
    · omega
end
section
variable {δ σ : Type} {no : σ → Bool} {one one' : σ → δ × σ}
theorem goL_no {s : σ} (n : Nat) (h : no s = true) : goL no one n s = ([], s) := by
  cases n with
  | zero => rfl
  | succ n => rw [goL, if_pos h]
theorem goL_yes : ∀ (n : Nat) (s : σ), no (goL no one n s).2 = false → no s = false
  | 0, _, h => h
  | n + 1, s, h => by
    cases e : no s with
    | false => rfl
    | true => rw [goL_no (n + 1) e] at h; exact h.symm.trans e |>.symm
theorem goL_full : ∀ (n : Nat) (s : σ), no (goL no one n s).2 = false → (goL no one n s).1.length = n
  | 0, _, _ => rfl
  | n + 1, s, h => by
    have e := goL_yes (n + 1) s h
    rw [goL_step one n s e] at h ⊢
    rw [List.length_cons, goL_full n _ h]
theorem goL_sim (h : ∀ s, no (one' s).2 = false → one s = one' s) : ∀ (n : Nat) (s : σ), no (goL no one' n s).2 = false → goL no one n s = goL no one' n s
  | 0, _, _ => rfl
  | n + 1, s, hs => by
    have e := goL_yes (n + 1) s hs
    rw [goL_step one' n s e] at hs ⊢
    have hn := goL_yes n _ hs
    rw [goL_step one n s e, h s hn, goL_sim h n _ hs]
theorem goL_back {Q : δ → Prop} (h : ∀ s, no (one s).2 = false → Q (one s).1 → one' s = one s) : ∀ (n : Nat) (s : σ), no (goL no one n s).2 = false → (∀ x ∈ (goL no one n s).1, Q x) → goL no one' n s = goL no one n s
  | 0, _, _, _ => rfl
  | n + 1, s, hs, hQ => by
    have e := goL_yes (n + 1) s hs
    rw [goL_step one n s e] at hs hQ ⊢
    have hn := goL_yes n _ hs
    rw [goL_step one' n s e, h s hn (hQ _ List.mem_cons_self), goL_back h n _ hs (fun x hx => hQ x (List.mem_cons_of_mem _ hx))]
end
section
variable {δ τ : Type} {b : List UInt8} {most : Int} {one one' : RS × τ → δ × (RS × τ)}
theorem lsD_yes {s : RS × τ} (h : (lsD b most one s).2.1.no = false) : (dnS b most s.1).no = false := goL_yes (no := fun q : RS × τ => q.1.no) _ _ h
theorem lsP_yes {s : RS × τ} (h : (lsP b most one s).2.1.no = false) : (nmS b s.1).no = false ∧ nmX b s.1 ≤ most ∧ lsP b most one s = goL (fun q => q.1.no) one (nmX b s.1).toNat (nmS b s.1, s.2) := by
  have h1 := goL_yes (no := fun q : RS × τ => q.1.no) _ _ h
  dsimp only at h1
  by_cases q : most < nmX b s.1
  · rw [if_pos q] at h1; cases h1
  · rw [if_neg q] at h1
    exact ⟨h1, by omega, by unfold lsP; rw [if_neg q]⟩
theorem lsD_len {s : RS × τ} (h : (lsD b most one s).2.1.no = false) : ((lsD b most one s).1.length : Int) = dnX b most s.1 := by
  have := goL_full (no := fun q : RS × τ => q.1.no) _ _ h
  have hr : 0 ≤ dnX b most s.1 := by
    unfold dnX
    have := rdX_rng b s.1.at_
    split
    · omega
    · split
      · split <;> omega
      · omega
  have e : (lsD b most one s).1.length = (dnX b most s.1).toNat := this
  omega
theorem lsD_sim (hm : most ≤ 16777216) (h : ∀ s, (one' s).2.1.no = false → one s = one' s) {s : RS × τ} (hs : (lsD b most one' s).2.1.no = false) : lsP b most one s = lsD b most one' s := by
  have h1 := lsD_yes hs
  obtain ⟨e1, e2⟩ := dn_nm hm h1
  obtain ⟨_, _, h3, h4, _⟩ := dn_yes h1
  unfold lsP
  rw [e1, e2, if_neg (by omega)]
  exact goL_sim (no := fun q : RS × τ => q.1.no) h _ _ hs
theorem lsP_back {Q : δ → Prop} (h : ∀ s, (one s).2.1.no = false → Q (one s).1 → one' s = one s) {s : RS × τ} (hs : (lsP b most one s).2.1.no = false) (hQ : ∀ x ∈ (lsP b most one s).1, Q x) : lsD b most one' s = lsP b most one s := by
  obtain ⟨h1, h2, h3⟩ := lsP_yes hs
  obtain ⟨e1, e2⟩ := nm_dn h1 h2
  rw [h3] at hs hQ ⊢
  unfold lsD
  rw [e1, e2]
  exact goL_back (no := fun q : RS × τ => q.1.no) h _ _ hs hQ
end
section
variable {b : List UInt8}
theorem va_sim (s : RS) (h : (vaD b s).2.no = false) : vaX b s = vaD b s := by
  unfold vaD at h
  unfold vaX vaD
  by_cases h3 : oxX b (txT b s) = 3
  · rw [if_pos h3] at h ⊢
    rw [if_pos h3]
    obtain ⟨e1, e2⟩ := dn_nm (by omega) h
    rw [e1, e2]
  · rw [if_neg h3] at h ⊢
    rw [if_neg h3]
    by_cases h4 : oxX b (txT b s) = 4
    · rw [if_pos h4] at h ⊢
      rw [if_pos h4, lsD_sim (by omega) (fun _ _ => rfl) h, lsD_len h]
    · rw [if_neg h4, if_neg h4]
theorem vaD_back (s : RS) (h : (vaX b s).2.no = false) (hv : varB (vaX b s).1 = true) : vaD b s = vaX b s := by
  unfold varB at hv
  rw [Bool.and_eq_true, Bool.and_eq_true] at hv
  have hk := hv.2.2
  clear hv
  unfold vaX at h hk
  unfold vaX vaD
  by_cases h3 : oxX b (txT b s) = 3
  · rw [if_pos h3] at h hk ⊢
    rw [if_pos h3]
    unfold kindB at hk
    rw [if_neg (by simp), if_pos rfl, Bool.and_eq_true] at hk
    have hn := of_decide_eq_true hk.2
    dsimp only at hn h
    obtain ⟨e1, e2⟩ := nm_dn (m := 16) h hn.2
    rw [e1, e2]
  · rw [if_neg h3] at h hk ⊢
    rw [if_neg h3]
    by_cases h4 : oxX b (txT b s) = 4
    · rw [if_pos h4] at h ⊢
      rw [if_pos h4]
      have e := lsP_back (Q := fun _ => True) (one' := tx9 b) (fun _ _ _ => rfl) h (fun _ _ => trivial)
      have e2 := lsD_len (one := tx9 b) (by rw [e]; exact h)
      rw [e] at e2 ⊢
      rw [← e2]
    · rw [if_neg h4, if_neg h4]
theorem sp_yes {s : RS} (h : (spS b s).no = false) : s.no = false := by
  cases e : s.no with
  | false => rfl
  | true => rw [(sp_no (b := b) e).2, e] at h; exact h.symm.trans rfl |>.symm
theorem plc_sim (s : RS × List (List Sp)) (h : (plcD b s).2.1.no = false) : plc9 b s = plcD b s := by
  have h1 : (vaD b s.1).2.no = false := sp_yes h
  unfold plc9 plcD
  rw [va_sim s.1 h1]
theorem plc_back (s : RS × List (List Sp)) (h : (plc9 b s).2.1.no = false) (hv : varB (plc9 b s).1 = true) : plcD b s = plc9 b s := by
  have h1 : (vaX b s.1).2.no = false := sp_yes h
  unfold plc9 plcD
  rw [vaD_back s.1 h1 hv]
theorem farS_yes {t : Int} {s : RS} (h : (farS t s).no = false) : t ≤ 16777216 ∧ farS t s = s := by
  unfold farS at h ⊢
  split at h
  · cases h
  · rename_i q
    rw [if_neg q]
    exact ⟨by omega, rfl⟩
theorem pc_sim (a : Int) (s : RS) (h : (pcD b a s).2.no = false) : pcX b a s = pcD b a s := by
  have h0 : (lsD b 64 (plcD b) (pnD b a s, [])).2.1.no = false := h
  have h1 : (dnS b 64 (pnD b a s)).no = false := lsD_yes h0
  have h2 : (pnD b a s).no = false := (dn_yes h1).1
  obtain ⟨h3, h4⟩ := farS_yes h2
  have h5 : (dnS b 16777216 (dnS b 16777216 (txT b s))).no = false := by have e : pnD b a s = _ := h4; rw [← e]; exact h2
  have h6 : (dnS b 16777216 (txT b s)).no = false := (dn_yes h5).1
  obtain ⟨e1, e2⟩ := dn_nm (by omega) h6
  obtain ⟨e3, e4⟩ := dn_nm (by omega) h5
  have e5 : pnD b a s = dnS b 16777216 (dnS b 16777216 (txT b s)) := h4
  unfold pcX pcD
  rw [e2, e4, e1, e3, ← e5, lsD_sim (by omega) plc_sim h0]
theorem pcD_back (a : Int) (s : RS) (h : (pcX b a s).2.no = false) (ht : (pcX b a s).1.tt ≤ 16777216) (hv : ∀ v ∈ (pcX b a s).1.vs, varB v = true) : pcD b a s = pcX b a s := by
  have h0 : (lsP b 64 (plc9 b) (nmS b (nmS b (txT b s)), [])).2.1.no = false := h
  obtain ⟨h1, _, _⟩ := lsP_yes h0
  have h2 : (nmS b (nmS b (txT b s))).no = false := (nm_yes h1).1
  have h3 : (nmS b (txT b s)).no = false := (nm_yes h2).1
  have r1 := nmX_rng b (txT b s)
  have r2 := nmX_rng b (nmS b (txT b s))
  obtain ⟨e1, e2⟩ := nm_dn (m := 16777216) h3 r1.2
  obtain ⟨e3, e4⟩ := nm_dn (m := 16777216) h2 r2.2
  have ht' : a + nmX b (txT b s) + nmX b (nmS b (txT b s)) ≤ 16777216 := ht
  have e5 : pnD b a s = nmS b (nmS b (txT b s)) := by
    unfold pnD farS
    rw [e2, e4, e1, e3, if_neg (by omega)]
  have hb := lsP_back (one' := plcD b) plc_back h0 hv
  unfold pcX pcD
  rw [e5, e2, e1, e3, hb]
theorem pt_sim (s : RS) (h : (ptD b s).2.no = false) : ptX b s = ptD b s := by
  have h0 : (lsD b 64 (nmD b 64) (dnS b 1048576 (dnS b 64 s), ())).2.1.no = false := h
  have h1 : (dnS b 1048576 (dnS b 64 s)).no = false := (dn_yes (lsD_yes h0)).1
  have h2 : (dnS b 64 s).no = false := (dn_yes h1).1
  obtain ⟨e1, e2⟩ := dn_nm (by omega) h2
  obtain ⟨e3, e4⟩ := dn_nm (by omega) h1
  have hl := lsD_sim (one := nm9 b) (by omega) (fun s (hs : (nmD b 64 s).2.1.no = false) => by
    obtain ⟨a1, a2⟩ := dn_nm (m := 64) (by omega) hs
    unfold nm9 nmD
    rw [a1, a2]) h0
  unfold ptX ptD
  rw [e2, e4, e1, e3, hl]
theorem ptD_back (s : RS) (h : (ptX b s).2.no = false) (h64 : (ptX b s).1.fn ≤ 64) (hln : (ptX b s).1.ln ≤ 1048576) (hsc : ∀ x ∈ (ptX b s).1.sc, x ≤ 64) : ptD b s = ptX b s := by
  have h0 : (lsP b 64 (nm9 b) (nmS b (nmS b s), ())).2.1.no = false := h
  obtain ⟨h1, _, _⟩ := lsP_yes h0
  have h2 : (nmS b (nmS b s)).no = false := (nm_yes h1).1
  have h3 : (nmS b s).no = false := (nm_yes h2).1
  obtain ⟨e1, e2⟩ := nm_dn (m := 64) h3 h64
  obtain ⟨e3, e4⟩ := nm_dn (m := 1048576) h2 hln
  have hl := lsP_back (one' := nmD b 64) (Q := fun x => x ≤ 64) (fun s (hs : (nmS b s.1).no = false) (hx : nmX b s.1 ≤ 64) => by
    obtain ⟨a1, a2⟩ := nm_dn (m := 64) hs hx
    unfold nm9 nmD
    rw [a1, a2]) h0 hsc
  unfold ptX ptD
  rw [e2, e4, e1, e3, hl]
theorem okLs_mem : ∀ {l : List Plc} {a : Int}, okLs a l = true → ∀ p ∈ l, ∃ a', okL a' p = true
  | p :: l, a, h, q, hq => by
    have h' : (okL a p && okLs p.tt l) = true := h
    rw [Bool.and_eq_true] at h'
    rcases List.mem_cons.1 hq with rfl | hq
    · exact ⟨a, h'.1⟩
    · exact okLs_mem h'.2 q hq
theorem okLs_each : ∀ {l : List Plc} {a : Int}, okLs a l = true → ∀ p ∈ l, p.tt ≤ 16777216 ∧ ∀ v ∈ p.vs, varB v = true
  | p :: l, a, h, q, hq => by
    have h' : (okL a p && okLs p.tt l) = true := h
    rw [Bool.and_eq_true] at h'
    rcases List.mem_cons.1 hq with rfl | hq
    · have h1 := h'.1
      unfold okL at h1
      rw [Bool.and_eq_true, Bool.and_eq_true] at h1
      refine ⟨(of_decide_eq_true h1.1).2.2, fun v hv => ?_⟩
      have h2 := h1.2.2
      unfold holdB at h2
      rw [Bool.and_eq_true] at h2
      have hlen := of_decide_eq_true h2.1
      obtain ⟨j, hj, rfl⟩ := List.getElem_of_mem hv
      have := List.all_eq_true.1 h2.2 (q.vs[j], q.ss[j]'(by omega)) (List.mem_of_getElem? (i := j) (by rw [List.getElem?_eq_getElem (by rw [List.length_zip]; omega), List.getElem_zip]))
      unfold vsB at this
      rw [Bool.and_eq_true] at this
      exact this.1
    · exact okLs_each h'.2 q hq
theorem right9_each {ls : List Plc} {qs : List Pnt} (h : right9 ls qs = true) : (ls.length ≤ 64 ∧ qs.length ≤ 1000) ∧ (∀ p ∈ ls, p.tt ≤ 16777216 ∧ ∀ v ∈ p.vs, varB v = true) ∧ ∀ q ∈ qs, q.fn ≤ 64 ∧ q.ln ≤ 1048576 ∧ ∀ x ∈ q.sc, x ≤ 64 := by
  unfold right9 at h
  rw [Bool.and_eq_true, Bool.and_eq_true] at h
  obtain ⟨h1, h2, h3⟩ := h
  have hl := of_decide_eq_true h1
  refine ⟨hl, okLs_each h2, fun q hq => ?_⟩
  have hv : ∀ p ∈ ls, p.vs.length ≤ 64 := fun p hp => by
    obtain ⟨a, h1⟩ := okLs_mem h2 p hp
    unfold okL at h1
    rw [Bool.and_eq_true, Bool.and_eq_true] at h1
    have h2 := h1.2.2
    unfold holdB at h2
    rw [Bool.and_eq_true] at h2
    exact (of_decide_eq_true h2.1).1
  have hq' := List.all_eq_true.1 h3 q hq
  unfold okQ at hq'
  rw [Bool.and_eq_true] at hq'
  have a := of_decide_eq_true hq'.1
  have n := nvs_le hv q.fn.toNat
  exact ⟨by omega, by omega, fun x hx => by have := riseB_nn hq'.2 (by omega) x hx; omega⟩
theorem gd_ok (i : Int) (h : gdOk b i = true) : gtL b i = gdL b i ∧ gtQ b i = gdQ b i := by
  unfold gdOk at h
  rw [Bool.and_eq_true] at h
  have h1 : (gdQ b i).2.1.no = false := by simpa using h.1
  have h2 : (gdL b i).2.1.no = false := (dn_yes (lsD_yes h1)).1
  have e1 : gtL b i = gdL b i := lsD_sim (by omega) (fun s hs => by
    unfold get9 getD
    rw [pc_sim s.2 s.1 hs]) h2
  refine ⟨e1, ?_⟩
  have e2 : lsP b 1000 (pt9 b) ((gdL b i).2.1, ()) = gdQ b i := lsD_sim (by omega) (fun s hs => by
    unfold pt9 pntD
    rw [pt_sim s.1 hs]) h1
  unfold gtQ
  rw [e1, e2]
theorem gt_ok (i : Int) (h : gtOk b i = true) : gdL b i = gtL b i ∧ gdQ b i = gtQ b i := by
  unfold gtOk at h
  rw [Bool.and_eq_true] at h
  have h1 : (gtQ b i).2.1.no = false := by simpa using h.1
  obtain ⟨_, r2, r3⟩ := right9_each h.2
  have h2 : (gtL b i).2.1.no = false := (nm_yes (lsP_yes h1).1).1
  have e1 : gdL b i = gtL b i := lsP_back (most := 64) (one := get9 b) (one' := getD b) (s := (⟨i, false⟩, 0)) (Q := fun p => p.tt ≤ 16777216 ∧ ∀ v ∈ p.vs, varB v = true) (fun s hs hq => by
    unfold get9 getD
    rw [pcD_back s.2 s.1 hs hq.1 hq.2]) h2 r2
  refine ⟨e1, ?_⟩
  have e2 : lsD b 1000 (pntD b) ((gtL b i).2.1, ()) = gtQ b i := lsP_back (most := 1000) (one := pt9 b) (one' := pntD b) (s := ((gtL b i).2.1, ())) (Q := fun q => q.fn ≤ 64 ∧ q.ln ≤ 1048576 ∧ ∀ x ∈ q.sc, x ≤ 64) (fun s hs hq => by
    unfold pt9 pntD
    rw [ptD_back s.1 hs hq.1 hq.2.1 hq.2.2]) h1 r3
  unfold gdQ
  rw [e1, e2]
theorem gd_gt (i : Int) : gdE b i = gtE b i ∧ (gtE b i = 0 → gdL b i = gtL b i ∧ gdQ b i = gtQ b i) := by
  have h1 : gdOk b i = gtOk b i := by
    cases e : gtOk b i with
    | true =>
      obtain ⟨a1, a2⟩ := gt_ok i e
      unfold gdOk
      rw [a1, a2]
      exact e
    | false =>
      cases e2 : gdOk b i with
      | false => rfl
      | true =>
        obtain ⟨a1, a2⟩ := gd_ok i e2
        unfold gtOk at e
        rw [a1, a2] at e
        exact e2.symm.trans (show gdOk b i = false from e)
  refine ⟨by unfold gdE gtE; rw [h1], fun h => gt_ok i ?_⟩
  unfold gtE at h
  split at h
  · omega
  · split at h
    · assumption
    · omega
end
end Go.Proofs.YtbkfkdiadeaooaaGreat
