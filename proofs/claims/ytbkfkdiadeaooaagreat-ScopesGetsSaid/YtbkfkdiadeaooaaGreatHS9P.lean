/-
  Merged for a claim: S9P.
-/
import Derived.Test.YtbkfkdiadeaooaaGreatHS9O
import Derived.BigQuiet
import Derived.WalkSpells
namespace Go.Proofs.YtbkfkdiadeaooaaGreat
open Go Go.RowKit

/-- blocks of no type of S are as they were -/
def OnlyS (S : TypeId → Prop) (w w' : World) : Prop := ∀ k e, HasT w k e → ¬ S e → w'.heap[k]? = w.heap[k]?
theorem OnlyS.refl (S : TypeId → Prop) (w : World) : OnlyS S w w := fun _ _ _ _ => rfl
theorem OnlyS.trans {S : TypeId → Prop} {w w1 w2 : World} (h : OnlyS S w w1) (h2 : OnlyS S w1 w2) : OnlyS S w w2 := fun k e hk he => (h2 k e (hk.same (h k e hk he)) he).trans (h k e hk he)
theorem OnlyS.below {S : TypeId → Prop} {w w' : World} (h : Below w.heap.size w w') : OnlyS S w w' := fun k _ hk _ => h.block k hk.lt
theorem OnlyS.grown {S : TypeId → Prop} {w w' : World} {g : Nat} {e : TypeId} (h : w.grownBy w' (some g)) (hg : HasT w g e) (hS : S e) : OnlyS S w w' := fun k e2 hk he => h.block k hk.lt (fun q => by
  injection q with q
  subst q
  exact he (by rw [hk.one hg]; exact hS))
/-- blocks that were there lie as they lay, but for some of type T that are newer -/
theorem OnlyS.own {S : TypeId → Prop} {w0 w w' : World} {row : Option Nat} (h : OnlyS S w0 w) (hz : w0.heap.size ≤ w.heap.size) (hg : w.grownBy w' row) (hr : ∀ k, row = some k → w0.heap.size ≤ k) : OnlyS S w0 w' := fun k e hk he => by
  have hlt := hk.lt
  refine (hg.block k (by omega) (fun q => ?_)).trans (h k e hk he)
  have := hr k q.symm
  omega

def goL {δ σ : Type} (no : σ → Bool) (one : σ → δ × σ) : Nat → σ → List δ × σ
  | 0, s => ([], s)
  | n + 1, s => if no s = true then ([], s) else ((one s).1 :: (goL no one n (one s).2).1, (goL no one n (one s).2).2)
theorem goL_step {δ σ : Type} {no : σ → Bool} (one : σ → δ × σ) (n : Nat) (s : σ) (h : no s = false) : goL no one (n + 1) s = ((one s).1 :: (goL no one n (one s).2).1, (goL no one n (one s).2).2) := by
  rw [goL, if_neg (by rw [h]; simp)]
/-- a list's reading: how many, then one by one -/
def lsP {δ τ : Type} (b : List UInt8) (most : Int) (one : RS × τ → δ × (RS × τ)) (s : RS × τ) : List δ × (RS × τ) :=
  goL (fun q => q.1.no) one (nmX b s.1).toNat (if most < nmX b s.1 then { nmS b s.1 with no := true } else nmS b s.1, s.2)
theorem nmX_rng (b : List UInt8) (s : RS) : 0 ≤ nmX b s ∧ nmX b s ≤ 16777216 := by
  unfold nmX
  have := rdX_rng b s.at_
  split
  · omega
  · split
    · split <;> omega
    · omega
/-- what the part that reads one thing owes -/
structure OneP {α δ τ : Type} (K : El α) (D : World → α → Prop) (dat : α → δ) (val : α → Value) (S : TypeId → Prop) (gr B G : Nat) (A : Option Addr) (c : Nat) (b : List UInt8) (Inv : RS × τ → World → Prop) (one : RS × τ → δ × (RS × τ)) (sz : τ → Nat) (F : Nat) (args : Array Value) : Prop where
  enter : ∀ a w, (callFunc F a).run Tryz.prog w = .ok (.enter F a) w
  call : ∀ s W, Inv s W → B ≤ W.heap.size → sz s.2 ≤ 100000 → Calls Tryz.prog F args W (fun e w' => ∃ x : α, e = .returned (val x) ∧ dat x = (one s).1 ∧ D w' x ∧ Inv (one s).2 w' ∧ OnlyS S W w' ∧ Below B W w')
  but : ∀ s W w', Inv s W → ButT K.e W w' → Below G W w' → Inv s w'
  dbut : ∀ W w' x, D W x → ButT K.e W w' → D w' x
  donly : ∀ W w' x, D W x → OnlyS S W w' → D w' x
  rd : ∀ s W, Inv s W → RdAt W gr A c b s.1
  upd : ∀ s s' W w', Inv s W → RdAt w' gr A c b s' → W.grownBy w' (some gr) → Inv (s', s.2) w'
  grow : ∀ s, sz (one s).2.2 ≤ sz s.2 + 1
  rin : S 44
  kout : ¬ S K.e
  base : B ≤ gr
def lenW : Value → Int | .slice _ n _ => n | _ => 0
/-- a list's answer -/
def LsR {α δ τ : Type} (K : El α) (D : World → α → Prop) (dat : α → δ) (S : TypeId → Prop) (B : Nat) (Inv : RS × τ → World → Prop) (r : List δ × (RS × τ)) (w : World) (e : Ending) (w' : World) : Prop :=
  ∃ (v : Value) (xs : List α), e = .returned v ∧ xs.map dat = r.1 ∧ K.Own w' w.heap.size v xs ∧ (∀ x ∈ xs, D w' x) ∧ Inv r.2 w' ∧ OnlyS S w w' ∧ Below B w w'

set_option maxRecDepth 100000 in
set_option maxHeartbeats 4000000 in
theorem listV_any {δ τ : Type} (D : World → Pv → Prop) (dat : Pv → δ) (S : TypeId → Prop) (gr B : Nat) (A : Option Addr) (c : Nat) (b : List UInt8) (Inv : RS × τ → World → Prop) (one : RS × τ → δ × (RS × τ)) (sz : τ → Nat) (F : Nat) (recv caps : Array Value) (most : Int) (s : RS × τ) (w : World)
    (hc : b.length ≤ c) (hbn : b.length ≤ 1099511627776) (hl : Lies w gr A b) (hm : 0 ≤ most ∧ most ≤ 100000) (h : OneP eV D dat (fun x => (.agg (vK x))) S gr B w.heap.size A c b Inv one sz F (recv ++ caps)) (hi : Inv s w) (hB : B ≤ w.heap.size) (h0 : sz s.2 = 0) :
    Calls Tryz.prog 35 #[.pointer (some ⟨gr, 0, none⟩), .int .i64 most, .func (.func F) recv caps] w (LsR eV D dat S B Inv (lsP b most one s) w) := by
  have HN := Lib.hid (number_any gr A c b s.1 w hc hbn hl (h.rd s w hi))
  have hrg := nmX_rng b s.1
  have HH := Lib.hid h
  have hE := h.enter
  obtain ⟨r, hr⟩ : ∃ r, lsP b most one s = r := ⟨_, rfl⟩
  have HR := Lib.hid hr.symm
  rw [hr]
  unfold lsP at HR
  generalize hX : nmX b s.1 = X at *
  generalize hS' : nmS b s.1 = s' at *
  have HI := Lib.hid hi
  clear hr hi hX hS' hl
  go_enter Tryz.func35, Tryz.ntmps35
  go_wp2_with fail
  refine HN.out.mono ?_
  rintro e w1 ⟨rfl, hr1, hg1⟩
  have hz1 := hg1.size
  have hgr := ((HH.out.rd s w HI.out)).lt
  have HI1 := Lib.hid (HH.out.upd s s' w w1 HI.out hr1 hg1)
  have HO1 := Lib.hid (OnlyS.grown (S := S) hg1 (HH.out.rd s w HI.out).has HH.out.rin)
  have HB1 := Lib.hid ((Below.refl B w).grown hg1 hB (fun k e => by injection e with e; subst e; exact HH.out.base))
  have n2 := hr1.n2
  have nf := hr1.frozen 2
  have HR1 := Lib.hid hr1
  clear hr1 hg1 HN
  by_cases hbig : most < X
  · have HF := Lib.hid (show r = ([], ({ s' with no := true }, s.2)) by
      rw [HR.out, if_pos hbig]
      obtain ⟨n, hn⟩ : ∃ n, X.toNat = n + 1 := ⟨X.toNat - 1, by omega⟩
      rw [hn]
      unfold goL
      rw [if_pos rfl])
    have hX0 : (0 : Int) < X := by omega
    have HRX := Lib.hid (HR1.out.setN true)
    have hg2 := grown_set w1 gr 2 (.bool true)
    have HIX := Lib.hid (HH.out.upd (s', s.2) _ w1 _ HI1.out HRX.out hg2)
    have HOX := Lib.hid (HO1.out.trans (OnlyS.grown (S := S) hg2 HR1.out.has HH.out.rin))
    have HBX := Lib.hid (HB1.out.setCell (p := ⟨gr, 2, none⟩) HH.out.base (.bool true))
    have m2 := HRX.out.n2
    clear hg2
    go_wp2_with fail
    go_loopw [8] (fun v wx => v = .slice none 0 0 ∧ wx = w1.setCell ⟨gr, 2, none⟩ (.bool true)) (fun _ _ => 0)
    case atStart => exact ⟨rfl, rfl⟩
    case round =>
      obtain ⟨rfl, rfl⟩ := hrel
      clear HR HI1 HO1 HB1
      go_wp2_with fail
      go_ret
      exact ⟨.slice none 0 0, [], rfl, by rw [HF.out]; rfl, El.Own.nil _ _, fun _ h => (by cases h), by rw [HF.out]; exact HIX.out, HOX.out, HBX.out⟩
  · have hX0 : X ≤ most := by omega
    rw [if_neg hbig] at HR
    have HZ1 := Lib.hid hz1
    clear hgr n2 nf hz1
    go_wp2_with fail
    go_loopw [8] (fun v wx => ∃ (xs : List Pv) (n : Nat) (sx : RS × τ) (Ax : Option Addr) (cx : Nat), v = .slice Ax xs.length cx ∧ (xs.length : Int) + n = X ∧ Hid (eV.Own wx w.heap.size (.slice Ax xs.length cx) xs) ∧ Hid (r = (xs.map dat ++ (goL (fun q => q.1.no) one n sx).1, (goL (fun q => q.1.no) one n sx).2)) ∧ Hid (∀ x ∈ xs, D wx x) ∧ Hid (Inv sx wx) ∧ Hid (OnlyS S w wx) ∧ Hid (Below B w wx) ∧ Hid (w.heap.size ≤ wx.heap.size) ∧ sz sx.2 ≤ xs.length) (fun v _ => (X - lenW v).toNat)
    case atStart => exact ⟨[], X.toNat, (s', s.2), none, 0, rfl, by simp; omega, El.Own.nil _ _, by rw [HR.out]; rfl, fun _ h => (by cases h), HI1, HO1, HB1, HZ1, by simp only [h0]; omega⟩
    case round =>
      obtain ⟨xs, n, sx, Ax, cx, rfl, hn, hO, hr, hD, hIx, hOx, hBx, hZx, hsz⟩ := hrel
      clear HR HI1 HO1 HB1 HZ1 HR1
      have hR2 := HH.out.rd _ _ hIx.out
      have n2 := hR2.n2
      clear hR2
      by_cases hlt : (xs.length : Int) < X
      · cases hno : sx.1.no
        · rw [hno] at n2
          obtain ⟨m, rfl⟩ : ∃ m, n = m + 1 := ⟨n - 1, by omega⟩
          have hcall := HH.out.call sx wr hIx.out (Nat.le_trans hB hZx.out) (by omega)
          have hgw := HH.out.grow sx
          have HC := Lib.hid hcall
          have HN := Lib.hid (show r = ((xs.map dat ++ [(one sx).1]) ++ (goL (fun q => q.1.no) one m (one sx).2).1, (goL (fun q => q.1.no) one m (one sx).2).2) by
            rw [hr.out, goL_step (no := fun q : RS × τ => q.1.no) one m sx hno, List.append_assoc]
            rfl)
          clear hcall hno hr
          go_wp2_with fail
          refine HC.out.mono ?_
          rintro e w2 ⟨x, rfl, hx, hDx, hI2, hO2, hB2⟩
          have hz2 := hB2.size
          have HZ2 := Lib.hid (Nat.le_trans hZx.out hz2)
          have HO2 := Lib.hid (hO.out.kept fun k hk => hO2 k _ hk HH.out.kout)
          have HD2 := Lib.hid (show ∀ y ∈ xs ++ [x], D w2 y from fun y hy => by
            rcases List.mem_append.1 hy with hy | hy
            · exact HH.out.donly _ _ _ (hD.out y hy) hO2
            · rw [List.mem_singleton.1 hy]; exact hDx)
          have HX2 := Lib.hid (hOx.out.trans hO2)
          have HB2 := Lib.hid (hBx.out.trans hB2)
          have HI2 := Lib.hid hI2
          have HE2 := Lib.hid hx
          clear hO hD hIx hOx hBx hZx HC hx hDx hI2 hO2 hB2 hz2 n2
          unfold vK
          go_wp2_with (at_builtin
                       go_must (refine El.app1 eV _ rfl 46 (.agg #[.string ⟨#[]⟩, .int .u8 0, .int .i64 0, .string ⟨#[]⟩, .int .i64 0, .slice none 0 0]) 80 Tryz.underlying46 var_info rfl (by omega) (by decide) (.tmp 28) (.tmp 31) rfl w.heap.size _ xs rfl (HO2.out.below (below_lnew w2 _)) w2.heap.size 1 x rfl 67 (heap_alloc_new w2 _) (by omega) (by have := HZ2.out; simp; omega) ?_)
                       intro v6 w6 ho6 hg6
                       have HO6 := Lib.hid ho6
                       have HG6 := Lib.hid hg6
                       obtain ⟨A6, n6, c6, rfl, hn6, _, _, _⟩ := ho6.formN
                       clear ho6 hg6)
          have hb3 := below_lnew w2 (.cells (vK x) 67)
          have hz3 := hb3.size
          have ho3 := HO2.out.below hb3
          have HT7 := Lib.hid ((ButT.below (T := eV.e) hb3).trans (ButT.grown HG6.out (fun q e => ho3.has q e)))
          have hbB := El.below_grown (hb3.mono (by have := HZ2.out; omega)) HG6.out (ho3.base hB) (by have := HZ2.out; omega)
          have HB7 := Lib.hid hbB
          have HG7 := Lib.hid (El.below_grown (hb3.mono (by have := HZ2.out; omega)) HG6.out ho3 (by have := HZ2.out; omega))
          have HX7 := Lib.hid ((HX2.out.trans (OnlyS.below hb3)).own (by have := HZ2.out; omega) HG6.out (fun q e => (ho3.lt q e).1))
          have HZ7 := Lib.hid (Nat.le_trans HZ2.out (Nat.le_trans hz3 HG6.out.size))
          clear hb3 hz3 ho3 hbB
          have HI7 := Lib.hid (HH.out.but _ _ _ HI2.out HT7.out HG7.out)
          have HD7 := Lib.hid (fun y hy => HH.out.dbut _ _ _ (HD2.out y hy) HT7.out)
          go_roundw
          case rel => exact ⟨xs ++ [x], m, (one sx).2, A6, c6, by rw [hn6.out], by simp; omega, by rw [hn6.out]; exact HO6.out, by rw [List.map_append, List.map_singleton, HE2.out]; exact HN.out, HD7, HI7, HX7, HB2.out.trans HB7.out, HZ7, by simp only [List.length_append, List.length_singleton]; omega⟩
          case measure =>
            have := hn6.out
            simp only [List.length_append, List.length_singleton] at this
            simp only [lenW]
            omega
        · rw [hno] at n2
          have HN := Lib.hid (show r = (xs.map dat, sx) by
            rw [hr.out]
            cases n with
            | zero => unfold goL; rw [List.append_nil]
            | succ n => unfold goL; rw [if_pos hno, List.append_nil])
          clear hno hr
          go_wp2_with fail
          go_ret
          exact ⟨_, xs, rfl, by rw [HN.out], hO.out, hD.out, by rw [HN.out]; exact hIx.out, hOx.out, hBx.out⟩
      · have hlt2 : X ≤ xs.length := by omega
        have HN := Lib.hid (show r = (xs.map dat, sx) by
          rw [hr.out]
          obtain rfl : n = 0 := by omega
          unfold goL
          rw [List.append_nil])
        clear hr
        go_wp2_with fail
        go_ret
        exact ⟨_, xs, rfl, by rw [HN.out], hO.out, hD.out, by rw [HN.out]; exact hIx.out, hOx.out, hBx.out⟩

set_option maxRecDepth 100000 in
set_option maxHeartbeats 4000000 in
theorem listL_any {δ τ : Type} (D : World → Pp → Prop) (dat : Pp → δ) (S : TypeId → Prop) (gr B : Nat) (A : Option Addr) (c : Nat) (b : List UInt8) (Inv : RS × τ → World → Prop) (one : RS × τ → δ × (RS × τ)) (sz : τ → Nat) (F : Nat) (recv caps : Array Value) (most : Int) (s : RS × τ) (w : World)
    (hc : b.length ≤ c) (hbn : b.length ≤ 1099511627776) (hl : Lies w gr A b) (hm : 0 ≤ most ∧ most ≤ 100000) (h : OneP eL D dat (fun x => (.agg (lK x))) S gr B w.heap.size A c b Inv one sz F (recv ++ caps)) (hi : Inv s w) (hB : B ≤ w.heap.size) (h0 : sz s.2 = 0) :
    Calls Tryz.prog 15 #[.pointer (some ⟨gr, 0, none⟩), .int .i64 most, .func (.func F) recv caps] w (LsR eL D dat S B Inv (lsP b most one s) w) := by
  have HN := Lib.hid (number_any gr A c b s.1 w hc hbn hl (h.rd s w hi))
  have hrg := nmX_rng b s.1
  have HH := Lib.hid h
  have hE := h.enter
  obtain ⟨r, hr⟩ : ∃ r, lsP b most one s = r := ⟨_, rfl⟩
  have HR := Lib.hid hr.symm
  rw [hr]
  unfold lsP at HR
  generalize hX : nmX b s.1 = X at *
  generalize hS' : nmS b s.1 = s' at *
  have HI := Lib.hid hi
  clear hr hi hX hS' hl
  go_enter Tryz.func15, Tryz.ntmps15
  go_wp2_with fail
  refine HN.out.mono ?_
  rintro e w1 ⟨rfl, hr1, hg1⟩
  have hz1 := hg1.size
  have hgr := ((HH.out.rd s w HI.out)).lt
  have HI1 := Lib.hid (HH.out.upd s s' w w1 HI.out hr1 hg1)
  have HO1 := Lib.hid (OnlyS.grown (S := S) hg1 (HH.out.rd s w HI.out).has HH.out.rin)
  have HB1 := Lib.hid ((Below.refl B w).grown hg1 hB (fun k e => by injection e with e; subst e; exact HH.out.base))
  have n2 := hr1.n2
  have nf := hr1.frozen 2
  have HR1 := Lib.hid hr1
  clear hr1 hg1 HN
  by_cases hbig : most < X
  · have HF := Lib.hid (show r = ([], ({ s' with no := true }, s.2)) by
      rw [HR.out, if_pos hbig]
      obtain ⟨n, hn⟩ : ∃ n, X.toNat = n + 1 := ⟨X.toNat - 1, by omega⟩
      rw [hn]
      unfold goL
      rw [if_pos rfl])
    have hX0 : (0 : Int) < X := by omega
    have HRX := Lib.hid (HR1.out.setN true)
    have hg2 := grown_set w1 gr 2 (.bool true)
    have HIX := Lib.hid (HH.out.upd (s', s.2) _ w1 _ HI1.out HRX.out hg2)
    have HOX := Lib.hid (HO1.out.trans (OnlyS.grown (S := S) hg2 HR1.out.has HH.out.rin))
    have HBX := Lib.hid (HB1.out.setCell (p := ⟨gr, 2, none⟩) HH.out.base (.bool true))
    have m2 := HRX.out.n2
    clear hg2
    go_wp2_with fail
    go_loopw [8] (fun v wx => v = .slice none 0 0 ∧ wx = w1.setCell ⟨gr, 2, none⟩ (.bool true)) (fun _ _ => 0)
    case atStart => exact ⟨rfl, rfl⟩
    case round =>
      obtain ⟨rfl, rfl⟩ := hrel
      clear HR HI1 HO1 HB1
      go_wp2_with fail
      go_ret
      exact ⟨.slice none 0 0, [], rfl, by rw [HF.out]; rfl, El.Own.nil _ _, fun _ h => (by cases h), by rw [HF.out]; exact HIX.out, HOX.out, HBX.out⟩
  · have hX0 : X ≤ most := by omega
    rw [if_neg hbig] at HR
    have HZ1 := Lib.hid hz1
    clear hgr n2 nf hz1
    go_wp2_with fail
    go_loopw [8] (fun v wx => ∃ (xs : List Pp) (n : Nat) (sx : RS × τ) (Ax : Option Addr) (cx : Nat), v = .slice Ax xs.length cx ∧ (xs.length : Int) + n = X ∧ Hid (eL.Own wx w.heap.size (.slice Ax xs.length cx) xs) ∧ Hid (r = (xs.map dat ++ (goL (fun q => q.1.no) one n sx).1, (goL (fun q => q.1.no) one n sx).2)) ∧ Hid (∀ x ∈ xs, D wx x) ∧ Hid (Inv sx wx) ∧ Hid (OnlyS S w wx) ∧ Hid (Below B w wx) ∧ Hid (w.heap.size ≤ wx.heap.size) ∧ sz sx.2 ≤ xs.length) (fun v _ => (X - lenW v).toNat)
    case atStart => exact ⟨[], X.toNat, (s', s.2), none, 0, rfl, by simp; omega, El.Own.nil _ _, by rw [HR.out]; rfl, fun _ h => (by cases h), HI1, HO1, HB1, HZ1, by simp only [h0]; omega⟩
    case round =>
      obtain ⟨xs, n, sx, Ax, cx, rfl, hn, hO, hr, hD, hIx, hOx, hBx, hZx, hsz⟩ := hrel
      clear HR HI1 HO1 HB1 HZ1 HR1
      have hR2 := HH.out.rd _ _ hIx.out
      have n2 := hR2.n2
      clear hR2
      by_cases hlt : (xs.length : Int) < X
      · cases hno : sx.1.no
        · rw [hno] at n2
          obtain ⟨m, rfl⟩ : ∃ m, n = m + 1 := ⟨n - 1, by omega⟩
          have hcall := HH.out.call sx wr hIx.out (Nat.le_trans hB hZx.out) (by omega)
          have hgw := HH.out.grow sx
          have HC := Lib.hid hcall
          have HN := Lib.hid (show r = ((xs.map dat ++ [(one sx).1]) ++ (goL (fun q => q.1.no) one m (one sx).2).1, (goL (fun q => q.1.no) one m (one sx).2).2) by
            rw [hr.out, goL_step (no := fun q : RS × τ => q.1.no) one m sx hno, List.append_assoc]
            rfl)
          clear hcall hno hr
          go_wp2_with fail
          refine HC.out.mono ?_
          rintro e w2 ⟨x, rfl, hx, hDx, hI2, hO2, hB2⟩
          have hz2 := hB2.size
          have HZ2 := Lib.hid (Nat.le_trans hZx.out hz2)
          have HO2 := Lib.hid (hO.out.kept fun k hk => hO2 k _ hk HH.out.kout)
          have HD2 := Lib.hid (show ∀ y ∈ xs ++ [x], D w2 y from fun y hy => by
            rcases List.mem_append.1 hy with hy | hy
            · exact HH.out.donly _ _ _ (hD.out y hy) hO2
            · rw [List.mem_singleton.1 hy]; exact hDx)
          have HX2 := Lib.hid (hOx.out.trans hO2)
          have HB2 := Lib.hid (hBx.out.trans hB2)
          have HI2 := Lib.hid hI2
          have HE2 := Lib.hid hx
          clear hO hD hIx hOx hBx hZx HC hx hDx hI2 hO2 hB2 hz2 n2
          unfold lK
          go_wp2_with (at_builtin
                       go_must (refine El.app1 eL _ rfl 25 (.agg #[.string ⟨#[]⟩, .int .i64 0, .int .i64 0, .slice none 0 0, .slice none 0 0]) 80 Tryz.underlying25 place_info rfl (by omega) (by decide) (.tmp 28) (.tmp 31) rfl w.heap.size _ xs rfl (HO2.out.below (below_lnew w2 _)) w2.heap.size 1 x rfl 49 (heap_alloc_new w2 _) (by omega) (by have := HZ2.out; simp; omega) ?_)
                       intro v6 w6 ho6 hg6
                       have HO6 := Lib.hid ho6
                       have HG6 := Lib.hid hg6
                       obtain ⟨A6, n6, c6, rfl, hn6, _, _, _⟩ := ho6.formN
                       clear ho6 hg6)
          have hb3 := below_lnew w2 (.cells (lK x) 49)
          have hz3 := hb3.size
          have ho3 := HO2.out.below hb3
          have HT7 := Lib.hid ((ButT.below (T := eL.e) hb3).trans (ButT.grown HG6.out (fun q e => ho3.has q e)))
          have hbB := El.below_grown (hb3.mono (by have := HZ2.out; omega)) HG6.out (ho3.base hB) (by have := HZ2.out; omega)
          have HB7 := Lib.hid hbB
          have HG7 := Lib.hid (El.below_grown (hb3.mono (by have := HZ2.out; omega)) HG6.out ho3 (by have := HZ2.out; omega))
          have HX7 := Lib.hid ((HX2.out.trans (OnlyS.below hb3)).own (by have := HZ2.out; omega) HG6.out (fun q e => (ho3.lt q e).1))
          have HZ7 := Lib.hid (Nat.le_trans HZ2.out (Nat.le_trans hz3 HG6.out.size))
          clear hb3 hz3 ho3 hbB
          have HI7 := Lib.hid (HH.out.but _ _ _ HI2.out HT7.out HG7.out)
          have HD7 := Lib.hid (fun y hy => HH.out.dbut _ _ _ (HD2.out y hy) HT7.out)
          go_roundw
          case rel => exact ⟨xs ++ [x], m, (one sx).2, A6, c6, by rw [hn6.out], by simp; omega, by rw [hn6.out]; exact HO6.out, by rw [List.map_append, List.map_singleton, HE2.out]; exact HN.out, HD7, HI7, HX7, HB2.out.trans HB7.out, HZ7, by simp only [List.length_append, List.length_singleton]; omega⟩
          case measure =>
            have := hn6.out
            simp only [List.length_append, List.length_singleton] at this
            simp only [lenW]
            omega
        · rw [hno] at n2
          have HN := Lib.hid (show r = (xs.map dat, sx) by
            rw [hr.out]
            cases n with
            | zero => unfold goL; rw [List.append_nil]
            | succ n => unfold goL; rw [if_pos hno, List.append_nil])
          clear hno hr
          go_wp2_with fail
          go_ret
          exact ⟨_, xs, rfl, by rw [HN.out], hO.out, hD.out, by rw [HN.out]; exact hIx.out, hOx.out, hBx.out⟩
      · have hlt2 : X ≤ xs.length := by omega
        have HN := Lib.hid (show r = (xs.map dat, sx) by
          rw [hr.out]
          obtain rfl : n = 0 := by omega
          unfold goL
          rw [List.append_nil])
        clear hr
        go_wp2_with fail
        go_ret
        exact ⟨_, xs, rfl, by rw [HN.out], hO.out, hD.out, by rw [HN.out]; exact hIx.out, hOx.out, hBx.out⟩

set_option maxRecDepth 100000 in
set_option maxHeartbeats 4000000 in
theorem listQ_any {δ τ : Type} (D : World → Pq → Prop) (dat : Pq → δ) (S : TypeId → Prop) (gr B : Nat) (A : Option Addr) (c : Nat) (b : List UInt8) (Inv : RS × τ → World → Prop) (one : RS × τ → δ × (RS × τ)) (sz : τ → Nat) (F : Nat) (recv caps : Array Value) (most : Int) (s : RS × τ) (w : World)
    (hc : b.length ≤ c) (hbn : b.length ≤ 1099511627776) (hl : Lies w gr A b) (hm : 0 ≤ most ∧ most ≤ 100000) (h : OneP eQ D dat (fun x => (.agg (qK x))) S gr B w.heap.size A c b Inv one sz F (recv ++ caps)) (hi : Inv s w) (hB : B ≤ w.heap.size) (h0 : sz s.2 = 0) :
    Calls Tryz.prog 18 #[.pointer (some ⟨gr, 0, none⟩), .int .i64 most, .func (.func F) recv caps] w (LsR eQ D dat S B Inv (lsP b most one s) w) := by
  have HN := Lib.hid (number_any gr A c b s.1 w hc hbn hl (h.rd s w hi))
  have hrg := nmX_rng b s.1
  have HH := Lib.hid h
  have hE := h.enter
  obtain ⟨r, hr⟩ : ∃ r, lsP b most one s = r := ⟨_, rfl⟩
  have HR := Lib.hid hr.symm
  rw [hr]
  unfold lsP at HR
  generalize hX : nmX b s.1 = X at *
  generalize hS' : nmS b s.1 = s' at *
  have HI := Lib.hid hi
  clear hr hi hX hS' hl
  go_enter Tryz.func18, Tryz.ntmps18
  go_wp2_with fail
  refine HN.out.mono ?_
  rintro e w1 ⟨rfl, hr1, hg1⟩
  have hz1 := hg1.size
  have hgr := ((HH.out.rd s w HI.out)).lt
  have HI1 := Lib.hid (HH.out.upd s s' w w1 HI.out hr1 hg1)
  have HO1 := Lib.hid (OnlyS.grown (S := S) hg1 (HH.out.rd s w HI.out).has HH.out.rin)
  have HB1 := Lib.hid ((Below.refl B w).grown hg1 hB (fun k e => by injection e with e; subst e; exact HH.out.base))
  have n2 := hr1.n2
  have nf := hr1.frozen 2
  have HR1 := Lib.hid hr1
  clear hr1 hg1 HN
  by_cases hbig : most < X
  · have HF := Lib.hid (show r = ([], ({ s' with no := true }, s.2)) by
      rw [HR.out, if_pos hbig]
      obtain ⟨n, hn⟩ : ∃ n, X.toNat = n + 1 := ⟨X.toNat - 1, by omega⟩
      rw [hn]
      unfold goL
      rw [if_pos rfl])
    have hX0 : (0 : Int) < X := by omega
    have HRX := Lib.hid (HR1.out.setN true)
    have hg2 := grown_set w1 gr 2 (.bool true)
    have HIX := Lib.hid (HH.out.upd (s', s.2) _ w1 _ HI1.out HRX.out hg2)
    have HOX := Lib.hid (HO1.out.trans (OnlyS.grown (S := S) hg2 HR1.out.has HH.out.rin))
    have HBX := Lib.hid (HB1.out.setCell (p := ⟨gr, 2, none⟩) HH.out.base (.bool true))
    have m2 := HRX.out.n2
    clear hg2
    go_wp2_with fail
    go_loopw [8] (fun v wx => v = .slice none 0 0 ∧ wx = w1.setCell ⟨gr, 2, none⟩ (.bool true)) (fun _ _ => 0)
    case atStart => exact ⟨rfl, rfl⟩
    case round =>
      obtain ⟨rfl, rfl⟩ := hrel
      clear HR HI1 HO1 HB1
      go_wp2_with fail
      go_ret
      exact ⟨.slice none 0 0, [], rfl, by rw [HF.out]; rfl, El.Own.nil _ _, fun _ h => (by cases h), by rw [HF.out]; exact HIX.out, HOX.out, HBX.out⟩
  · have hX0 : X ≤ most := by omega
    rw [if_neg hbig] at HR
    have HZ1 := Lib.hid hz1
    clear hgr n2 nf hz1
    go_wp2_with fail
    go_loopw [8] (fun v wx => ∃ (xs : List Pq) (n : Nat) (sx : RS × τ) (Ax : Option Addr) (cx : Nat), v = .slice Ax xs.length cx ∧ (xs.length : Int) + n = X ∧ Hid (eQ.Own wx w.heap.size (.slice Ax xs.length cx) xs) ∧ Hid (r = (xs.map dat ++ (goL (fun q => q.1.no) one n sx).1, (goL (fun q => q.1.no) one n sx).2)) ∧ Hid (∀ x ∈ xs, D wx x) ∧ Hid (Inv sx wx) ∧ Hid (OnlyS S w wx) ∧ Hid (Below B w wx) ∧ Hid (w.heap.size ≤ wx.heap.size) ∧ sz sx.2 ≤ xs.length) (fun v _ => (X - lenW v).toNat)
    case atStart => exact ⟨[], X.toNat, (s', s.2), none, 0, rfl, by simp; omega, El.Own.nil _ _, by rw [HR.out]; rfl, fun _ h => (by cases h), HI1, HO1, HB1, HZ1, by simp only [h0]; omega⟩
    case round =>
      obtain ⟨xs, n, sx, Ax, cx, rfl, hn, hO, hr, hD, hIx, hOx, hBx, hZx, hsz⟩ := hrel
      clear HR HI1 HO1 HB1 HZ1 HR1
      have hR2 := HH.out.rd _ _ hIx.out
      have n2 := hR2.n2
      clear hR2
      by_cases hlt : (xs.length : Int) < X
      · cases hno : sx.1.no
        · rw [hno] at n2
          obtain ⟨m, rfl⟩ : ∃ m, n = m + 1 := ⟨n - 1, by omega⟩
          have hcall := HH.out.call sx wr hIx.out (Nat.le_trans hB hZx.out) (by omega)
          have hgw := HH.out.grow sx
          have HC := Lib.hid hcall
          have HN := Lib.hid (show r = ((xs.map dat ++ [(one sx).1]) ++ (goL (fun q => q.1.no) one m (one sx).2).1, (goL (fun q => q.1.no) one m (one sx).2).2) by
            rw [hr.out, goL_step (no := fun q : RS × τ => q.1.no) one m sx hno, List.append_assoc]
            rfl)
          clear hcall hno hr
          go_wp2_with fail
          refine HC.out.mono ?_
          rintro e w2 ⟨x, rfl, hx, hDx, hI2, hO2, hB2⟩
          have hz2 := hB2.size
          have HZ2 := Lib.hid (Nat.le_trans hZx.out hz2)
          have HO2 := Lib.hid (hO.out.kept fun k hk => hO2 k _ hk HH.out.kout)
          have HD2 := Lib.hid (show ∀ y ∈ xs ++ [x], D w2 y from fun y hy => by
            rcases List.mem_append.1 hy with hy | hy
            · exact HH.out.donly _ _ _ (hD.out y hy) hO2
            · rw [List.mem_singleton.1 hy]; exact hDx)
          have HX2 := Lib.hid (hOx.out.trans hO2)
          have HB2 := Lib.hid (hBx.out.trans hB2)
          have HI2 := Lib.hid hI2
          have HE2 := Lib.hid hx
          clear hO hD hIx hOx hBx hZx HC hx hDx hI2 hO2 hB2 hz2 n2
          unfold qK
          go_wp2_with (at_builtin
                       go_must (refine El.app1 eQ _ rfl 26 (.agg #[.int .i64 0, .int .i64 0, .slice none 0 0]) 40 Tryz.underlying26 point_info rfl (by omega) (by decide) (.tmp 28) (.tmp 31) rfl w.heap.size _ xs rfl (HO2.out.below (below_lnew w2 _)) w2.heap.size 1 x rfl 55 (heap_alloc_new w2 _) (by omega) (by have := HZ2.out; simp; omega) ?_)
                       intro v6 w6 ho6 hg6
                       have HO6 := Lib.hid ho6
                       have HG6 := Lib.hid hg6
                       obtain ⟨A6, n6, c6, rfl, hn6, _, _, _⟩ := ho6.formN
                       clear ho6 hg6)
          have hb3 := below_lnew w2 (.cells (qK x) 55)
          have hz3 := hb3.size
          have ho3 := HO2.out.below hb3
          have HT7 := Lib.hid ((ButT.below (T := eQ.e) hb3).trans (ButT.grown HG6.out (fun q e => ho3.has q e)))
          have hbB := El.below_grown (hb3.mono (by have := HZ2.out; omega)) HG6.out (ho3.base hB) (by have := HZ2.out; omega)
          have HB7 := Lib.hid hbB
          have HG7 := Lib.hid (El.below_grown (hb3.mono (by have := HZ2.out; omega)) HG6.out ho3 (by have := HZ2.out; omega))
          have HX7 := Lib.hid ((HX2.out.trans (OnlyS.below hb3)).own (by have := HZ2.out; omega) HG6.out (fun q e => (ho3.lt q e).1))
          have HZ7 := Lib.hid (Nat.le_trans HZ2.out (Nat.le_trans hz3 HG6.out.size))
          clear hb3 hz3 ho3 hbB
          have HI7 := Lib.hid (HH.out.but _ _ _ HI2.out HT7.out HG7.out)
          have HD7 := Lib.hid (fun y hy => HH.out.dbut _ _ _ (HD2.out y hy) HT7.out)
          go_roundw
          case rel => exact ⟨xs ++ [x], m, (one sx).2, A6, c6, by rw [hn6.out], by simp; omega, by rw [hn6.out]; exact HO6.out, by rw [List.map_append, List.map_singleton, HE2.out]; exact HN.out, HD7, HI7, HX7, HB2.out.trans HB7.out, HZ7, by simp only [List.length_append, List.length_singleton]; omega⟩
          case measure =>
            have := hn6.out
            simp only [List.length_append, List.length_singleton] at this
            simp only [lenW]
            omega
        · rw [hno] at n2
          have HN := Lib.hid (show r = (xs.map dat, sx) by
            rw [hr.out]
            cases n with
            | zero => unfold goL; rw [List.append_nil]
            | succ n => unfold goL; rw [if_pos hno, List.append_nil])
          clear hno hr
          go_wp2_with fail
          go_ret
          exact ⟨_, xs, rfl, by rw [HN.out], hO.out, hD.out, by rw [HN.out]; exact hIx.out, hOx.out, hBx.out⟩
      · have hlt2 : X ≤ xs.length := by omega
        have HN := Lib.hid (show r = (xs.map dat, sx) by
          rw [hr.out]
          obtain rfl : n = 0 := by omega
          unfold goL
          rw [List.append_nil])
        clear hr
        go_wp2_with fail
        go_ret
        exact ⟨_, xs, rfl, by rw [HN.out], hO.out, hD.out, by rw [HN.out]; exact hIx.out, hOx.out, hBx.out⟩

set_option maxRecDepth 100000 in
set_option maxHeartbeats 4000000 in
theorem listS_any {δ τ : Type} (D : World → (List UInt8) → Prop) (dat : (List UInt8) → δ) (S : TypeId → Prop) (gr B : Nat) (A : Option Addr) (c : Nat) (b : List UInt8) (Inv : RS × τ → World → Prop) (one : RS × τ → δ × (RS × τ)) (sz : τ → Nat) (F : Nat) (recv caps : Array Value) (most : Int) (s : RS × τ) (w : World)
    (hc : b.length ≤ c) (hbn : b.length ≤ 1099511627776) (hl : Lies w gr A b) (hm : 0 ≤ most ∧ most ≤ 100000) (h : OneP eS D dat (fun x => (tv x)) S gr B w.heap.size A c b Inv one sz F (recv ++ caps)) (hi : Inv s w) (hB : B ≤ w.heap.size) (h0 : sz s.2 = 0) :
    Calls Tryz.prog 62 #[.pointer (some ⟨gr, 0, none⟩), .int .i64 most, .func (.func F) recv caps] w (LsR eS D dat S B Inv (lsP b most one s) w) := by
  have HN := Lib.hid (number_any gr A c b s.1 w hc hbn hl (h.rd s w hi))
  have hrg := nmX_rng b s.1
  have HH := Lib.hid h
  have hE := h.enter
  obtain ⟨r, hr⟩ : ∃ r, lsP b most one s = r := ⟨_, rfl⟩
  have HR := Lib.hid hr.symm
  rw [hr]
  unfold lsP at HR
  generalize hX : nmX b s.1 = X at *
  generalize hS' : nmS b s.1 = s' at *
  have HI := Lib.hid hi
  clear hr hi hX hS' hl
  go_enter Tryz.func62, Tryz.ntmps62
  go_wp2_with fail
  refine HN.out.mono ?_
  rintro e w1 ⟨rfl, hr1, hg1⟩
  have hz1 := hg1.size
  have hgr := ((HH.out.rd s w HI.out)).lt
  have HI1 := Lib.hid (HH.out.upd s s' w w1 HI.out hr1 hg1)
  have HO1 := Lib.hid (OnlyS.grown (S := S) hg1 (HH.out.rd s w HI.out).has HH.out.rin)
  have HB1 := Lib.hid ((Below.refl B w).grown hg1 hB (fun k e => by injection e with e; subst e; exact HH.out.base))
  have n2 := hr1.n2
  have nf := hr1.frozen 2
  have HR1 := Lib.hid hr1
  clear hr1 hg1 HN
  by_cases hbig : most < X
  · have HF := Lib.hid (show r = ([], ({ s' with no := true }, s.2)) by
      rw [HR.out, if_pos hbig]
      obtain ⟨n, hn⟩ : ∃ n, X.toNat = n + 1 := ⟨X.toNat - 1, by omega⟩
      rw [hn]
      unfold goL
      rw [if_pos rfl])
    have hX0 : (0 : Int) < X := by omega
    have HRX := Lib.hid (HR1.out.setN true)
    have hg2 := grown_set w1 gr 2 (.bool true)
    have HIX := Lib.hid (HH.out.upd (s', s.2) _ w1 _ HI1.out HRX.out hg2)
    have HOX := Lib.hid (HO1.out.trans (OnlyS.grown (S := S) hg2 HR1.out.has HH.out.rin))
    have HBX := Lib.hid (HB1.out.setCell (p := ⟨gr, 2, none⟩) HH.out.base (.bool true))
    have m2 := HRX.out.n2
    clear hg2
    go_wp2_with fail
    go_loopw [8] (fun v wx => v = .slice none 0 0 ∧ wx = w1.setCell ⟨gr, 2, none⟩ (.bool true)) (fun _ _ => 0)
    case atStart => exact ⟨rfl, rfl⟩
    case round =>
      obtain ⟨rfl, rfl⟩ := hrel
      clear HR HI1 HO1 HB1
      go_wp2_with fail
      go_ret
      exact ⟨.slice none 0 0, [], rfl, by rw [HF.out]; rfl, El.Own.nil _ _, fun _ h => (by cases h), by rw [HF.out]; exact HIX.out, HOX.out, HBX.out⟩
  · have hX0 : X ≤ most := by omega
    rw [if_neg hbig] at HR
    have HZ1 := Lib.hid hz1
    clear hgr n2 nf hz1
    go_wp2_with fail
    go_loopw [8] (fun v wx => ∃ (xs : List (List UInt8)) (n : Nat) (sx : RS × τ) (Ax : Option Addr) (cx : Nat), v = .slice Ax xs.length cx ∧ (xs.length : Int) + n = X ∧ Hid (eS.Own wx w.heap.size (.slice Ax xs.length cx) xs) ∧ Hid (r = (xs.map dat ++ (goL (fun q => q.1.no) one n sx).1, (goL (fun q => q.1.no) one n sx).2)) ∧ Hid (∀ x ∈ xs, D wx x) ∧ Hid (Inv sx wx) ∧ Hid (OnlyS S w wx) ∧ Hid (Below B w wx) ∧ Hid (w.heap.size ≤ wx.heap.size) ∧ sz sx.2 ≤ xs.length) (fun v _ => (X - lenW v).toNat)
    case atStart => exact ⟨[], X.toNat, (s', s.2), none, 0, rfl, by simp; omega, El.Own.nil _ _, by rw [HR.out]; rfl, fun _ h => (by cases h), HI1, HO1, HB1, HZ1, by simp only [h0]; omega⟩
    case round =>
      obtain ⟨xs, n, sx, Ax, cx, rfl, hn, hO, hr, hD, hIx, hOx, hBx, hZx, hsz⟩ := hrel
      clear HR HI1 HO1 HB1 HZ1 HR1
      have hR2 := HH.out.rd _ _ hIx.out
      have n2 := hR2.n2
      clear hR2
      by_cases hlt : (xs.length : Int) < X
      · cases hno : sx.1.no
        · rw [hno] at n2
          obtain ⟨m, rfl⟩ : ∃ m, n = m + 1 := ⟨n - 1, by omega⟩
          have hcall := HH.out.call sx wr hIx.out (Nat.le_trans hB hZx.out) (by omega)
          have hgw := HH.out.grow sx
          have HC := Lib.hid hcall
          have HN := Lib.hid (show r = ((xs.map dat ++ [(one sx).1]) ++ (goL (fun q => q.1.no) one m (one sx).2).1, (goL (fun q => q.1.no) one m (one sx).2).2) by
            rw [hr.out, goL_step (no := fun q : RS × τ => q.1.no) one m sx hno, List.append_assoc]
            rfl)
          clear hcall hno hr
          go_wp2_with fail
          refine HC.out.mono ?_
          rintro e w2 ⟨x, rfl, hx, hDx, hI2, hO2, hB2⟩
          have hz2 := hB2.size
          have HZ2 := Lib.hid (Nat.le_trans hZx.out hz2)
          have HO2 := Lib.hid (hO.out.kept fun k hk => hO2 k _ hk HH.out.kout)
          have HD2 := Lib.hid (show ∀ y ∈ xs ++ [x], D w2 y from fun y hy => by
            rcases List.mem_append.1 hy with hy | hy
            · exact HH.out.donly _ _ _ (hD.out y hy) hO2
            · rw [List.mem_singleton.1 hy]; exact hDx)
          have HX2 := Lib.hid (hOx.out.trans hO2)
          have HB2 := Lib.hid (hBx.out.trans hB2)
          have HI2 := Lib.hid hI2
          have HE2 := Lib.hid hx
          clear hO hD hIx hOx hBx hZx HC hx hDx hI2 hO2 hB2 hz2 n2
          unfold tv
          go_wp2_with (at_builtin
                       go_must (refine El.app1 eS _ rfl 65 (.string ⟨#[]⟩) 16 Tryz.underlying65 str_info rfl (by omega) (by decide) (.tmp 28) (.tmp 31) rfl w.heap.size _ xs rfl (HO2.out.below (below_lnew w2 _)) w2.heap.size 1 x rfl 9 (heap_alloc_new w2 _) (by omega) (by have := HZ2.out; simp; omega) ?_)
                       intro v6 w6 ho6 hg6
                       have HO6 := Lib.hid ho6
                       have HG6 := Lib.hid hg6
                       obtain ⟨A6, n6, c6, rfl, hn6, _, _, _⟩ := ho6.formN
                       clear ho6 hg6)
          have hb3 := below_lnew w2 (.cells #[tv x] 9)
          have hz3 := hb3.size
          have ho3 := HO2.out.below hb3
          have HT7 := Lib.hid ((ButT.below (T := eS.e) hb3).trans (ButT.grown HG6.out (fun q e => ho3.has q e)))
          have hbB := El.below_grown (hb3.mono (by have := HZ2.out; omega)) HG6.out (ho3.base hB) (by have := HZ2.out; omega)
          have HB7 := Lib.hid hbB
          have HG7 := Lib.hid (El.below_grown (hb3.mono (by have := HZ2.out; omega)) HG6.out ho3 (by have := HZ2.out; omega))
          have HX7 := Lib.hid ((HX2.out.trans (OnlyS.below hb3)).own (by have := HZ2.out; omega) HG6.out (fun q e => (ho3.lt q e).1))
          have HZ7 := Lib.hid (Nat.le_trans HZ2.out (Nat.le_trans hz3 HG6.out.size))
          clear hb3 hz3 ho3 hbB
          have HI7 := Lib.hid (HH.out.but _ _ _ HI2.out HT7.out HG7.out)
          have HD7 := Lib.hid (fun y hy => HH.out.dbut _ _ _ (HD2.out y hy) HT7.out)
          go_roundw
          case rel => exact ⟨xs ++ [x], m, (one sx).2, A6, c6, by rw [hn6.out], by simp; omega, by rw [hn6.out]; exact HO6.out, by rw [List.map_append, List.map_singleton, HE2.out]; exact HN.out, HD7, HI7, HX7, HB2.out.trans HB7.out, HZ7, by simp only [List.length_append, List.length_singleton]; omega⟩
          case measure =>
            have := hn6.out
            simp only [List.length_append, List.length_singleton] at this
            simp only [lenW]
            omega
        · rw [hno] at n2
          have HN := Lib.hid (show r = (xs.map dat, sx) by
            rw [hr.out]
            cases n with
            | zero => unfold goL; rw [List.append_nil]
            | succ n => unfold goL; rw [if_pos hno, List.append_nil])
          clear hno hr
          go_wp2_with fail
          go_ret
          exact ⟨_, xs, rfl, by rw [HN.out], hO.out, hD.out, by rw [HN.out]; exact hIx.out, hOx.out, hBx.out⟩
      · have hlt2 : X ≤ xs.length := by omega
        have HN := Lib.hid (show r = (xs.map dat, sx) by
          rw [hr.out]
          obtain rfl : n = 0 := by omega
          unfold goL
          rw [List.append_nil])
        clear hr
        go_wp2_with fail
        go_ret
        exact ⟨_, xs, rfl, by rw [HN.out], hO.out, hD.out, by rw [HN.out]; exact hIx.out, hOx.out, hBx.out⟩

set_option maxRecDepth 100000 in
set_option maxHeartbeats 4000000 in
theorem listI_any {δ τ : Type} (D : World → Int → Prop) (dat : Int → δ) (S : TypeId → Prop) (gr B : Nat) (A : Option Addr) (c : Nat) (b : List UInt8) (Inv : RS × τ → World → Prop) (one : RS × τ → δ × (RS × τ)) (sz : τ → Nat) (F : Nat) (recv caps : Array Value) (most : Int) (s : RS × τ) (w : World)
    (hc : b.length ≤ c) (hbn : b.length ≤ 1099511627776) (hl : Lies w gr A b) (hm : 0 ≤ most ∧ most ≤ 100000) (h : OneP eI D dat (fun x => (.int .i64 x)) S gr B w.heap.size A c b Inv one sz F (recv ++ caps)) (hi : Inv s w) (hB : B ≤ w.heap.size) (h0 : sz s.2 = 0) :
    Calls Tryz.prog 40 #[.pointer (some ⟨gr, 0, none⟩), .int .i64 most, .func (.func F) recv caps] w (LsR eI D dat S B Inv (lsP b most one s) w) := by
  have HN := Lib.hid (number_any gr A c b s.1 w hc hbn hl (h.rd s w hi))
  have hrg := nmX_rng b s.1
  have HH := Lib.hid h
  have hE := h.enter
  obtain ⟨r, hr⟩ : ∃ r, lsP b most one s = r := ⟨_, rfl⟩
  have HR := Lib.hid hr.symm
  rw [hr]
  unfold lsP at HR
  generalize hX : nmX b s.1 = X at *
  generalize hS' : nmS b s.1 = s' at *
  have HI := Lib.hid hi
  clear hr hi hX hS' hl
  go_enter Tryz.func40, Tryz.ntmps40
  go_wp2_with fail
  refine HN.out.mono ?_
  rintro e w1 ⟨rfl, hr1, hg1⟩
  have hz1 := hg1.size
  have hgr := ((HH.out.rd s w HI.out)).lt
  have HI1 := Lib.hid (HH.out.upd s s' w w1 HI.out hr1 hg1)
  have HO1 := Lib.hid (OnlyS.grown (S := S) hg1 (HH.out.rd s w HI.out).has HH.out.rin)
  have HB1 := Lib.hid ((Below.refl B w).grown hg1 hB (fun k e => by injection e with e; subst e; exact HH.out.base))
  have n2 := hr1.n2
  have nf := hr1.frozen 2
  have HR1 := Lib.hid hr1
  clear hr1 hg1 HN
  by_cases hbig : most < X
  · have HF := Lib.hid (show r = ([], ({ s' with no := true }, s.2)) by
      rw [HR.out, if_pos hbig]
      obtain ⟨n, hn⟩ : ∃ n, X.toNat = n + 1 := ⟨X.toNat - 1, by omega⟩
      rw [hn]
      unfold goL
      rw [if_pos rfl])
    have hX0 : (0 : Int) < X := by omega
    have HRX := Lib.hid (HR1.out.setN true)
    have hg2 := grown_set w1 gr 2 (.bool true)
    have HIX := Lib.hid (HH.out.upd (s', s.2) _ w1 _ HI1.out HRX.out hg2)
    have HOX := Lib.hid (HO1.out.trans (OnlyS.grown (S := S) hg2 HR1.out.has HH.out.rin))
    have HBX := Lib.hid (HB1.out.setCell (p := ⟨gr, 2, none⟩) HH.out.base (.bool true))
    have m2 := HRX.out.n2
    clear hg2
    go_wp2_with fail
    go_loopw [8] (fun v wx => v = .slice none 0 0 ∧ wx = w1.setCell ⟨gr, 2, none⟩ (.bool true)) (fun _ _ => 0)
    case atStart => exact ⟨rfl, rfl⟩
    case round =>
      obtain ⟨rfl, rfl⟩ := hrel
      clear HR HI1 HO1 HB1
      go_wp2_with fail
      go_ret
      exact ⟨.slice none 0 0, [], rfl, by rw [HF.out]; rfl, El.Own.nil _ _, fun _ h => (by cases h), by rw [HF.out]; exact HIX.out, HOX.out, HBX.out⟩
  · have hX0 : X ≤ most := by omega
    rw [if_neg hbig] at HR
    have HZ1 := Lib.hid hz1
    clear hgr n2 nf hz1
    go_wp2_with fail
    go_loopw [8] (fun v wx => ∃ (xs : List Int) (n : Nat) (sx : RS × τ) (Ax : Option Addr) (cx : Nat), v = .slice Ax xs.length cx ∧ (xs.length : Int) + n = X ∧ Hid (eI.Own wx w.heap.size (.slice Ax xs.length cx) xs) ∧ Hid (r = (xs.map dat ++ (goL (fun q => q.1.no) one n sx).1, (goL (fun q => q.1.no) one n sx).2)) ∧ Hid (∀ x ∈ xs, D wx x) ∧ Hid (Inv sx wx) ∧ Hid (OnlyS S w wx) ∧ Hid (Below B w wx) ∧ Hid (w.heap.size ≤ wx.heap.size) ∧ sz sx.2 ≤ xs.length) (fun v _ => (X - lenW v).toNat)
    case atStart => exact ⟨[], X.toNat, (s', s.2), none, 0, rfl, by simp; omega, El.Own.nil _ _, by rw [HR.out]; rfl, fun _ h => (by cases h), HI1, HO1, HB1, HZ1, by simp only [h0]; omega⟩
    case round =>
      obtain ⟨xs, n, sx, Ax, cx, rfl, hn, hO, hr, hD, hIx, hOx, hBx, hZx, hsz⟩ := hrel
      clear HR HI1 HO1 HB1 HZ1 HR1
      have hR2 := HH.out.rd _ _ hIx.out
      have n2 := hR2.n2
      clear hR2
      by_cases hlt : (xs.length : Int) < X
      · cases hno : sx.1.no
        · rw [hno] at n2
          obtain ⟨m, rfl⟩ : ∃ m, n = m + 1 := ⟨n - 1, by omega⟩
          have hcall := HH.out.call sx wr hIx.out (Nat.le_trans hB hZx.out) (by omega)
          have hgw := HH.out.grow sx
          have HC := Lib.hid hcall
          have HN := Lib.hid (show r = ((xs.map dat ++ [(one sx).1]) ++ (goL (fun q => q.1.no) one m (one sx).2).1, (goL (fun q => q.1.no) one m (one sx).2).2) by
            rw [hr.out, goL_step (no := fun q : RS × τ => q.1.no) one m sx hno, List.append_assoc]
            rfl)
          clear hcall hno hr
          go_wp2_with fail
          refine HC.out.mono ?_
          rintro e w2 ⟨x, rfl, hx, hDx, hI2, hO2, hB2⟩
          have hz2 := hB2.size
          have HZ2 := Lib.hid (Nat.le_trans hZx.out hz2)
          have HO2 := Lib.hid (hO.out.kept fun k hk => hO2 k _ hk HH.out.kout)
          have HD2 := Lib.hid (show ∀ y ∈ xs ++ [x], D w2 y from fun y hy => by
            rcases List.mem_append.1 hy with hy | hy
            · exact HH.out.donly _ _ _ (hD.out y hy) hO2
            · rw [List.mem_singleton.1 hy]; exact hDx)
          have HX2 := Lib.hid (hOx.out.trans hO2)
          have HB2 := Lib.hid (hBx.out.trans hB2)
          have HI2 := Lib.hid hI2
          have HE2 := Lib.hid hx
          clear hO hD hIx hOx hBx hZx HC hx hDx hI2 hO2 hB2 hz2 n2
          skip
          go_wp2_with (at_builtin
                       go_must (refine El.app1 eI _ rfl 53 (.int .i64 0) 8 Tryz.underlying53 int_info rfl (by omega) (by decide) (.tmp 28) (.tmp 31) rfl w.heap.size _ xs rfl (HO2.out.below (below_lnew w2 _)) w2.heap.size 1 x rfl 3 (heap_alloc_new w2 _) (by omega) (by have := HZ2.out; simp; omega) ?_)
                       intro v6 w6 ho6 hg6
                       have HO6 := Lib.hid ho6
                       have HG6 := Lib.hid hg6
                       obtain ⟨A6, n6, c6, rfl, hn6, _, _, _⟩ := ho6.formN
                       clear ho6 hg6)
          have hb3 := below_lnew w2 (.cells #[.int .i64 x] 3)
          have hz3 := hb3.size
          have ho3 := HO2.out.below hb3
          have HT7 := Lib.hid ((ButT.below (T := eI.e) hb3).trans (ButT.grown HG6.out (fun q e => ho3.has q e)))
          have hbB := El.below_grown (hb3.mono (by have := HZ2.out; omega)) HG6.out (ho3.base hB) (by have := HZ2.out; omega)
          have HB7 := Lib.hid hbB
          have HG7 := Lib.hid (El.below_grown (hb3.mono (by have := HZ2.out; omega)) HG6.out ho3 (by have := HZ2.out; omega))
          have HX7 := Lib.hid ((HX2.out.trans (OnlyS.below hb3)).own (by have := HZ2.out; omega) HG6.out (fun q e => (ho3.lt q e).1))
          have HZ7 := Lib.hid (Nat.le_trans HZ2.out (Nat.le_trans hz3 HG6.out.size))
          clear hb3 hz3 ho3 hbB
          have HI7 := Lib.hid (HH.out.but _ _ _ HI2.out HT7.out HG7.out)
          have HD7 := Lib.hid (fun y hy => HH.out.dbut _ _ _ (HD2.out y hy) HT7.out)
          go_roundw
          case rel => exact ⟨xs ++ [x], m, (one sx).2, A6, c6, by rw [hn6.out], by simp; omega, by rw [hn6.out]; exact HO6.out, by rw [List.map_append, List.map_singleton, HE2.out]; exact HN.out, HD7, HI7, HX7, HB2.out.trans HB7.out, HZ7, by simp only [List.length_append, List.length_singleton]; omega⟩
          case measure =>
            have := hn6.out
            simp only [List.length_append, List.length_singleton] at this
            simp only [lenW]
            omega
        · rw [hno] at n2
          have HN := Lib.hid (show r = (xs.map dat, sx) by
            rw [hr.out]
            cases n with
            | zero => unfold goL; rw [List.append_nil]
            | succ n => unfold goL; rw [if_pos hno, List.append_nil])
          clear hno hr
          go_wp2_with fail
          go_ret
          exact ⟨_, xs, rfl, by rw [HN.out], hO.out, hD.out, by rw [HN.out]; exact hIx.out, hOx.out, hBx.out⟩
      · have hlt2 : X ≤ xs.length := by omega
        have HN := Lib.hid (show r = (xs.map dat, sx) by
          rw [hr.out]
          obtain rfl : n = 0 := by omega
          unfold goL
          rw [List.append_nil])
        clear hr
        go_wp2_with fail
        go_ret
        exact ⟨_, xs, rfl, by rw [HN.out], hO.out, hD.out, by rw [HN.out]; exact hIx.out, hOx.out, hBx.out⟩
end Go.Proofs.YtbkfkdiadeaooaaGreat
