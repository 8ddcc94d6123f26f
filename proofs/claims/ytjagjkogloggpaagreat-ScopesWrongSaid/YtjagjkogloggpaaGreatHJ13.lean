/-
  Merged for a claim: S9F, S9G.
-/
import Derived.Test.YtjagjkogloggpaaGreatHS9E
namespace Go.Proofs.YtjagjkogloggpaaGreat
open Go Go.RowKit

def inB (pc : Int) (p : Plc) : Bool := decide (p.fr ≤ pc ∧ pc < p.tt)
def inF (pc : Int) : Nat → List Plc → Int × Bool
  | _, [] => (0, false)
  | k, p :: l => if inB pc p = true then ((k : Int), true) else inF pc (k + 1) l
def InR (x : Int × Bool) (w : World) (e : Ending) (w' : World) : Prop := e = .returned (.tuple #[.int .i64 x.1, .bool x.2]) ∧ Below w.heap.size w w'
theorem inF_at {pc : Int} {l : List Plc} {k : Nat} (h : k < l.length) : inF pc k (l.drop k) = if inB pc l[k] = true then ((k : Int), true) else inF pc (k + 1) (l.drop (k + 1)) := by
  rw [List.drop_eq_getElem_cons h]; rfl

set_option maxRecDepth 100000 in
set_option maxHeartbeats 1000000 in
theorem in9_any (A : Option Addr) (c : Nat) (ps : List Pp) (pc : Int) (w : World) (hn : ps.length ≤ 1099511627776) (h : eL.Lies w w.heap.size A ps) :
    Calls Tryz.prog 22 #[.slice A ps.length c, .int .i64 pc] w (InR (inF pc 0 (ps.map Pp.d)) w) := by
  obtain ⟨r, hr0⟩ : ∃ r, inF pc 0 (ps.map Pp.d) = r := ⟨_, rfl⟩
  have H0 := Lib.hid (show r = inF pc 0 ((ps.map Pp.d).drop 0) from hr0.symm)
  rw [hr0]
  clear hr0
  go_enter Tryz.func22, Tryz.ntmps22
  go_wp2_with fail
  go_loopw [10] (fun i wr => ∃ k : Nat, k ≤ ps.length ∧ i = .int .i64 k ∧ Hid (Below w.heap.size w wr) ∧ Hid (r = inF pc k ((ps.map Pp.d).drop k))) (fun i _ => ps.length - (intOf i).toNat)
  case atStart => exact ⟨0, by omega, rfl, Below.refl _ _, H0⟩
  case round =>
    obtain ⟨k, hk, rfl, hB, hr⟩ := hrel
    clear H0
    by_cases hlt : k < ps.length
    · have hmk : k < (ps.map Pp.d).length := by simpa using hlt
      obtain ⟨g, o, rfl, hg, x0, x1, x2, x3, x4⟩ := eL_at (h.below hB.out) hlt
      have HE := Lib.hid (hr.out.trans (inF_at hmk))
      clear hr
      simp only [List.getElem_map] at HE
      generalize ps[k] = p at *
      have HB1 := Lib.hid (hB.out.trans ((below_lnew wr (.cells (lK p) 51)).mono hB.out.size))
      obtain ⟨nm, fr, tt, vs, vA, vc, ss, sA, sc⟩ := p
      unfold lK tv at HB1
      dsimp only at HB1 x0 x1 x2 x3 x4
      by_cases q1 : fr ≤ pc
      · by_cases q2 : pc < tt
        · have HX := Lib.hid (show r = ((k : Int), true) by rw [HE.out, if_pos (show inB pc (Pp.d ⟨nm, fr, tt, vs, vA, vc, ss, sA, sc⟩) = true from decide_eq_true ⟨q1, q2⟩)])
          clear HE
          go_wp2_with fail
          go_ret2
          exact ⟨by rw [HX.out]; rfl, HB1.out⟩
        · have HX := Lib.hid (show r = inF pc (k + 1) ((ps.map Pp.d).drop (k + 1)) by rw [HE.out, if_neg (by unfold inB; simp [Pp.d, q2])])
          clear HE
          go_wp2_with fail
          go_roundw
          case rel => exact ⟨k + 1, by omega, by go_num, HB1, HX⟩
          case measure => simp [intOf]; omega
      · have HX := Lib.hid (show r = inF pc (k + 1) ((ps.map Pp.d).drop (k + 1)) by rw [HE.out, if_neg (by unfold inB; simp [Pp.d, q1])])
        clear HE
        go_wp2_with fail
        go_roundw
        case rel => exact ⟨k + 1, by omega, by go_num, HB1, HX⟩
        case measure => simp [intOf]; omega
    · have hki : (ps.length : Int) ≤ k := by omega
      have HX := Lib.hid (show r = (0, false) by rw [hr.out, List.drop_eq_nil_of_le (by simp; omega)]; rfl)
      clear hr
      go_wp2_with fail
      go_ret2
      exact ⟨by rw [HX.out]; rfl, hB.out⟩
set_option maxRecDepth 100000 in
set_option maxHeartbeats 1000000 in
theorem refIn9_any (A : Option Addr) (c : Nat) (ps : List Pp) (pc : Int) (w : World) (hn : ps.length ≤ 1099511627776) (h : eL.Lies w w.heap.size A ps) :
    Calls Tryz.prog 23 #[.slice A ps.length c, .int .i64 pc] w (InR (inF pc 0 (ps.map Pp.d)) w) := by
  obtain ⟨r, hr0⟩ : ∃ r, inF pc 0 (ps.map Pp.d) = r := ⟨_, rfl⟩
  have H0 := Lib.hid (show r = inF pc 0 ((ps.map Pp.d).drop 0) from hr0.symm)
  rw [hr0]
  clear hr0
  go_enter Tryz.func23, Tryz.ntmps23
  go_wp2_with fail
  go_loop [6] (fun i => ∃ k : Nat, k ≤ ps.length ∧ i = .int .i64 k ∧ Hid (r = inF pc k ((ps.map Pp.d).drop k))) (fun i => ps.length - (intOf i).toNat)
  case atStart => exact ⟨0, by omega, rfl, H0⟩
  case round =>
    obtain ⟨k, hk, rfl, hr⟩ := hrel
    clear H0
    by_cases hlt : k < ps.length
    · have hmk : k < (ps.map Pp.d).length := by simpa using hlt
      obtain ⟨g, o, rfl, hg, x0, x1, x2, x3, x4⟩ := eL_at h hlt
      have HE := Lib.hid (hr.out.trans (inF_at hmk))
      clear hr
      simp only [List.getElem_map] at HE
      generalize ps[k] = p at *
      obtain ⟨nm, fr, tt, vs, vA, vc, ss, sA, sc⟩ := p
      dsimp only at x0 x1 x2 x3 x4
      by_cases q1 : fr ≤ pc
      · by_cases q2 : pc < tt
        · have HX := Lib.hid (show r = ((k : Int), true) by rw [HE.out, if_pos (show inB pc (Pp.d ⟨nm, fr, tt, vs, vA, vc, ss, sA, sc⟩) = true from decide_eq_true ⟨q1, q2⟩)])
          clear HE
          go_wp2_with fail
          go_ret2
          exact ⟨by rw [HX.out]; rfl, Below.refl _ _⟩
        · have HX := Lib.hid (show r = inF pc (k + 1) ((ps.map Pp.d).drop (k + 1)) by rw [HE.out, if_neg (by unfold inB; simp [Pp.d, q2])])
          clear HE
          go_wp2_with fail
          go_round
          case rel => exact ⟨k + 1, by omega, by go_num, HX⟩
          case measure => simp [intOf]; omega
      · have HX := Lib.hid (show r = inF pc (k + 1) ((ps.map Pp.d).drop (k + 1)) by rw [HE.out, if_neg (by unfold inB; simp [Pp.d, q1])])
        clear HE
        go_wp2_with fail
        go_round
        case rel => exact ⟨k + 1, by omega, by go_num, HX⟩
        case measure => simp [intOf]; omega
    · have hki : (ps.length : Int) ≤ k := by omega
      have HX := Lib.hid (show r = (0, false) by rw [hr.out, List.drop_eq_nil_of_le (by simp; omega)]; rfl)
      clear hr
      go_wp2_with fail
      go_ret2
      exact ⟨by rw [HX.out]; rfl, Below.refl _ _⟩

def goB (vs : List Vr) (nm : List UInt8) (k : Int) : Bool := decide (0 ≤ k) && match vs[k.toNat]? with | some v => decide (v.nm = nm) | none => false
def namF (vs : List Vr) (nm : List UInt8) : List Int → Int × Bool → Int × Bool
  | [], s => s
  | k :: l, s => namF vs nm l (if goB vs nm k = true then (k, true) else s)
def nmd (ls : List Plc) (qs : List Pnt) (pt : Int) (nm : List UInt8) : Int × Bool :=
  if pt < 0 then (0, false) else match qs[pt.toNat]? with
    | none => (0, false)
    | some q => if q.fn < 0 then (0, false) else match ls[q.fn.toNat]? with
      | none => (0, false)
      | some p => namF p.vs nm q.sc (0, false)
theorem namF_at {vs : List Vr} {nm : List UInt8} {l : List Int} {s : Int × Bool} {k : Nat} (h : k < l.length) : namF vs nm (l.drop k) s = namF vs nm (l.drop (k + 1)) (if goB vs nm l[k] = true then (l[k], true) else s) := by
  rw [List.drop_eq_getElem_cons h]; rfl
theorem namF_snoc (vs : List Vr) (nm : List UInt8) (k : Int) : ∀ (l : List Int) (s : Int × Bool), namF vs nm (l ++ [k]) s = if goB vs nm k = true then (k, true) else namF vs nm l s
  | [], _s => rfl
  | _x :: l, _s => namF_snoc vs nm k l _
theorem nmd_neg {ls : List Plc} {qs : List Pnt} {pt : Int} {nm : List UInt8} (h : pt < 0) : nmd ls qs pt nm = (0, false) := by
  unfold nmd; rw [if_pos h]
theorem nmd_far {ls : List Plc} {qs : List Pnt} {pt : Int} {nm : List UInt8} (h0 : 0 ≤ pt) (h : (qs.length : Int) ≤ pt) : nmd ls qs pt nm = (0, false) := by
  unfold nmd; rw [if_neg (by omega), List.getElem?_eq_none (by omega)]
theorem nmd_at {ls : List Plc} {qs : List Pnt} {k : Nat} {nm : List UInt8} (h : k < qs.length) : nmd ls qs (k : Int) nm = if qs[k].fn < 0 then (0, false) else match ls[qs[k].fn.toNat]? with | none => (0, false) | some p => namF p.vs nm qs[k].sc (0, false) := by
  unfold nmd; rw [if_neg (by omega), Int.toNat_natCast, List.getElem?_eq_getElem h]
theorem goB_neg {vs : List Vr} {nm : List UInt8} {k : Int} (h : k < 0) : goB vs nm k = false := by
  unfold goB; rw [decide_eq_false (by omega)]; rfl
theorem goB_far {vs : List Vr} {nm : List UInt8} {k : Int} (h : (vs.length : Int) ≤ k) : goB vs nm k = false := by
  unfold goB; rw [List.getElem?_eq_none (by omega)]; simp
theorem goB_at {vs : List Vr} {nm : List UInt8} {k : Nat} (h : k < vs.length) : goB vs nm (k : Int) = decide (vs[k].nm = nm) := by
  unfold goB; rw [Int.toNat_natCast, List.getElem?_eq_getElem h, decide_eq_true (by omega), Bool.true_and]

set_option maxRecDepth 100000 in
set_option maxHeartbeats 4000000 in
theorem refNamed9_any (A A2 : Option Addr) (c c2 : Nat) (ps : List Pp) (qs : List Pq) (pt : Int) (nm : List UInt8) (w : World) (hs : ∀ q ∈ qs, q.d.sc.length ≤ 1099511627776) (h : TL w w.heap.size A ps) (h2 : UL w w.heap.size A2 qs) :
    Calls Tryz.prog 25 #[.slice A ps.length c, .slice A2 qs.length c2, .int .i64 pt, .string (str nm)] w (InR (nmd (ps.map Pp.d) (qs.map Pq.d) pt nm) w) := by
  by_cases h0 : pt < 0
  · rw [nmd_neg h0]
    go_enter Tryz.func25, Tryz.ntmps25
    go_wp2_with fail
    go_ret2
    exact ⟨rfl, Below.refl _ _⟩
  by_cases h1 : (qs.length : Int) ≤ pt
  · rw [nmd_far (by omega) (by simpa using h1)]
    have h0i : 0 ≤ pt := by omega
    clear h h2 hs
    go_enter Tryz.func25, Tryz.ntmps25
    go_wp2_with fail
    go_ret2
    exact ⟨rfl, Below.refl _ _⟩
  obtain ⟨j, rfl⟩ : ∃ n : Nat, pt = (n : Int) := ⟨pt.toNat, by omega⟩
  have hj : j < qs.length := by omega
  rw [nmd_at (by simpa using hj)]
  simp only [List.getElem_map]
  obtain ⟨g, o, rfl, hg, x0, x1, x2⟩ := eQ_at h2.1 hj
  have HQ := Lib.hid (h2.2 _ (List.getElem_mem hj))
  have HQN := Lib.hid (hs _ (List.getElem_mem hj))
  have hji : (j : Int) < qs.length := by omega
  clear hs h2
  generalize qs[j] = q at *
  obtain ⟨⟨fn, ln, sc⟩, qA, qc⟩ := q
  dsimp only at HQN x0 x1 x2 ⊢
  by_cases q1 : fn < 0
  · rw [if_pos q1]
    clear h HQ
    go_enter Tryz.func25, Tryz.ntmps25
    go_wp2_with fail
    go_ret2
    exact ⟨rfl, Below.refl _ _⟩
  rw [if_neg q1]
  by_cases q2 : (ps.length : Int) ≤ fn
  · rw [List.getElem?_eq_none (by simp; omega)]
    clear h HQ
    go_enter Tryz.func25, Tryz.ntmps25
    go_wp2_with fail
    go_ret2
    exact ⟨rfl, Below.refl _ _⟩
  obtain ⟨f, rfl⟩ : ∃ n : Nat, fn = (n : Int) := ⟨fn.toNat, by omega⟩
  have hf : f < ps.length := by omega
  have hfi : (f : Int) < ps.length := by omega
  rw [Int.toNat_natCast, List.getElem?_eq_getElem (by simpa using hf), List.getElem_map]
  obtain ⟨gp, op, rfl, hgp, _, _, _, y3, _⟩ := eL_at h.1 hf
  have HP := Lib.hid (h.2 _ (List.getElem_mem hf))
  clear h
  generalize ps[f] = pp at *
  obtain ⟨pnm, pfr, ptt, vs, vA, vc, pss, psA, psc⟩ := pp
  have HV := Lib.hid HP.out.v
  dsimp only [Pp.d] at y3 HV ⊢
  clear HP
  obtain ⟨r, hr0⟩ : ∃ r, namF (vs.map Pv.d) nm sc (0, false) = r := ⟨_, rfl⟩
  have H0 := Lib.hid (show r = namF (vs.map Pv.d) nm (sc.drop 0) (0, false) from hr0.symm)
  have HSL := Lib.hid HQ.out.1
  have HSC := Lib.hid HQ.out.2.1
  dsimp only at HSL HSC
  rw [hr0]
  have hsn := HQN.out
  clear hr0 HQ
  go_enter Tryz.func25, Tryz.ntmps25
  go_wp2_with fail
  go_loop [11, 12, 13] (fun a s i => ∃ (k : Nat) (x : Int) (b : Bool), k ≤ sc.length ∧ i = .int .i64 k ∧ a = .int .i64 x ∧ s = .bool b ∧ Hid (r = namF (vs.map Pv.d) nm (sc.drop k) (x, b))) (fun _ _ i => sc.length - (intOf i).toNat)
  case atStart => exact ⟨0, 0, false, by omega, rfl, rfl, rfl, H0⟩
  case round =>
    obtain ⟨k, x, b, hk, rfl, rfl, rfl, hr⟩ := hrel
    clear H0
    by_cases hlt : k < sc.length
    · obtain ⟨gs, os, rfl, hgs, z0⟩ := eI_at HSL.out hlt
      have HE := Lib.hid (hr.out.trans (namF_at hlt))
      have hki : (k : Int) < sc.length := by omega
      clear hr
      generalize sc[k] = y at *
      by_cases t1 : y < 0
      · have HX := Lib.hid (show r = namF (vs.map Pv.d) nm (sc.drop (k + 1)) (x, b) by rw [HE.out, goB_neg t1]; rfl)
        clear HE
        go_wp2_with fail
        go_round
        case rel => exact ⟨k + 1, x, b, by omega, by go_num, rfl, rfl, HX⟩
        case measure => simp [intOf]; omega
      by_cases t2 : (vs.length : Int) ≤ y
      · have HX := Lib.hid (show r = namF (vs.map Pv.d) nm (sc.drop (k + 1)) (x, b) by rw [HE.out, goB_far (by simpa using t2)]; rfl)
        clear HE
        go_wp2_with fail
        go_round
        case rel => exact ⟨k + 1, x, b, by omega, by go_num, rfl, rfl, HX⟩
        case measure => simp [intOf]; omega
      obtain ⟨m, rfl⟩ : ∃ n : Nat, y = (n : Int) := ⟨y.toNat, by omega⟩
      have hm : m < vs.length := by omega
      have hmi : (m : Int) < vs.length := by omega
      obtain ⟨gv, ov, rfl, hgv, n0, _, _, _, _, _⟩ := eV_at HV.out hm
      have HG := Lib.hid (show goB (vs.map Pv.d) nm (m : Int) = decide (vs[m].d.nm = nm) by rw [goB_at (by simpa using hm), List.getElem_map])
      generalize vs[m] = v at *
      have hq := str_toList v.d.nm
      have hq2 := str_toList nm
      by_cases t3 : v.d.nm = nm
      · have HX := Lib.hid (show r = namF (vs.map Pv.d) nm (sc.drop (k + 1)) ((m : Int), true) by rw [HE.out, HG.out, decide_eq_true t3]; rfl)
        have hqq : ((str v.d.nm).toList == (str nm).toList) = true := by rw [hq, hq2]; simpa using t3
        clear HE HG hq hq2 t3
        go_wp2_with fail
        go_round
        case rel => exact ⟨k + 1, (m : Int), true, by omega, by go_num, rfl, rfl, HX⟩
        case measure => simp [intOf]; omega
      · have HX := Lib.hid (show r = namF (vs.map Pv.d) nm (sc.drop (k + 1)) (x, b) by rw [HE.out, HG.out, decide_eq_false t3]; rfl)
        have hqq : ((str v.d.nm).toList == (str nm).toList) = false := by rw [hq, hq2]; simpa using t3
        clear HE HG hq hq2 t3
        go_wp2_with fail
        go_round
        case rel => exact ⟨k + 1, x, b, by omega, by go_num, rfl, rfl, HX⟩
        case measure => simp [intOf]; omega
    · have hki : (sc.length : Int) ≤ k := by omega
      have HX := Lib.hid (show r = (x, b) by rw [hr.out, List.drop_eq_nil_of_le (by omega)]; rfl)
      clear hr
      go_wp2_with fail
      go_ret2
      exact ⟨by rw [HX.out]; rfl, Below.refl _ _⟩
end Go.Proofs.YtjagjkogloggpaaGreat

namespace Go.Proofs.YtjagjkogloggpaaGreat
open Go Go.RowKit

/-- numbers with their values, from the last one on -/
def bwd (l : List Int) : List (Nat × Int) := ((List.range l.length).zip l).reverse
theorem bwd_len (l : List Int) : (bwd l).length = l.length := by simp [bwd]
theorem bwd_at {l : List Int} {k : Nat} (h : k < l.length) : (bwd l)[k]? = some (l.length - 1 - k, l[l.length - 1 - k]) := by
  unfold bwd
  rw [List.getElem?_reverse (by simpa using h)]
  simp only [List.length_zip, List.length_range, Nat.min_self]
  rw [List.getElem?_eq_getElem (by simp; omega), List.getElem_zip, List.getElem_range]
def encB (q : Nat × Int) : Array Value := #[.int .i64 q.1, .int .i64 q.2]
def IntSeq (n0 gf : Nat) (lb : Array Value) (qs : List (Nat × Int)) (w : World) : Prop :=
  SeqC gf lb encB (fun _ => False) (fun k => k < n0) (fun pre x _ => Nxt qs pre x) (fun xs => xs = qs) w

set_option maxRecDepth 100000 in
set_option maxHeartbeats 4000000 in
theorem backward_seq (gb n0 c : Nat) (A : Option Addr) (l : List Int) (w : World) (hgb : gb < w.heap.size) (hc : w.cell? ⟨gb, 0, none⟩ = some (.slice A l.length c)) (hb0 : gb < n0) (hP : eI.Lies w n0 A l) (hn : n0 ≤ w.heap.size) (hsz : l.length ≤ 1099511627776) :
    IntSeq n0 109 #[.pointer (some ⟨gb, 0, none⟩)] (bwd l) w := by
  intro ll J Jx W hz hb hJ hJx hY h0
  have hcW := (hb.cell (p := ⟨gb, 0, none⟩) hgb).trans hc
  have hPW := Lib.hid (hP.below (hb.mono hn))
  have hzw := hb.size
  clear hc hP
  refine callsIn_of_wp Tryz.func109 rfl trivial ?_ rfl
  simp only [Tryz.ntmps109, List.size_toArray, List.length_cons, List.length_nil, Nat.reduceAdd, Nat.reduceSub, Array.replicate_succ, Array.replicate_zero, List.push_toArray, List.append_toArray, List.nil_append, List.cons_append]
  gi_wp2
  gi_loopw [3] (fun i wr => ∃ k : Nat, k ≤ l.length ∧ i = .int .i64 ((k : Int) - 1) ∧ Hid (J ((bwd l).take (l.length - k)) wr) ∧ Hid (eI.Lies wr n0 A l) ∧ Hid (wr.cell? ⟨gb, 0, none⟩ = some (.slice A l.length c)) ∧ n0 ≤ wr.heap.size) (fun i _ => (intOf i + 1).toNat)
  case atStart => exact ⟨l.length, Nat.le_refl _, rfl, by rw [Nat.sub_self]; exact h0, hPW, hcW, by omega⟩
  case round =>
    obtain ⟨k, hk, rfl, hJs, hPs, hcs, hnr⟩ := hrel
    by_cases hlt : 0 < k
    · obtain ⟨i, rfl⟩ : ∃ i, k = i + 1 := ⟨k - 1, by omega⟩
      rw [show (((i + 1 : Nat) : Int) - 1) = (i : Int) by omega]
      have hil : i < l.length := by omega
      obtain ⟨g, o, rfl, hg, c1⟩ := eI_at hPs.out hil
      have hat := bwd_at (l := l) (k := l.length - (i + 1)) (by omega)
      have hta := take_next hat
      rw [show l.length - (i + 1) + 1 = l.length - i by omega] at hta
      have hx : l[l.length - 1 - (l.length - (i + 1))]'(by omega) = l[i] := by congr 1; omega
      rw [hx, show l.length - 1 - (l.length - (i + 1)) = i by omega] at hat hta
      obtain ⟨fn, tmps, assign, body, hy, hR⟩ := hY _ _ wr wr hJs.out (Lets.refl _) (nxt_at hat)
      have HTA := Lib.hid hta
      have hc0 := hcs.out
      clear hta hat hx
      generalize l[i] = x at *
      unfold encB at *
      dsimp only at hy
      gi_wp2
      refine hR.mono ?_
      rintro e W3 (⟨rfl, hJ3, hk3⟩ | ⟨rfl, hJx3⟩)
      · have HB3 := Lib.hid (hk3.old (n := n0) (fun _ h => h) hnr)
        have hz3 := hk3.size
        clear hk3
        gi_wp2
        go_roundw
        case rel => exact ⟨i, by omega, by go_num, by rw [← HTA.out]; exact hJ3, hPs.out.below HB3.out, (HB3.out.cell (p := ⟨gb, 0, none⟩) hb0).trans hc0, by omega⟩
        case measure => simp [intOf]
      · gi_wp2
        refine bodyPost_ret (results_none rfl _ _ _) rfl ?_
        exact ⟨⟨_, rfl⟩, .inr ⟨_, hJx3⟩⟩
    · obtain rfl : k = 0 := by omega
      gi_wp2
      go_end0
      refine ⟨⟨_, rfl⟩, .inl ⟨_, rfl, ?_⟩⟩
      have := hJs.out
      rwa [Nat.sub_zero, ← bwd_len l, List.take_length] at this
set_option maxHeartbeats 1000000 in
theorem backward_any (A : Option Addr) (n c : Nat) (w : World) : Calls Tryz.prog 59 #[.slice A n c] w fun e w' => e = .returned (.func (.func 109) #[] #[.pointer (some ⟨w.heap.size, 0, none⟩)]) ∧ w.alloc (.cells #[.slice A n c] 58) = w' := by
  go_enter Tryz.func59, Tryz.ntmps59
  go_wp2
  go_ret
  exact ⟨rfl, rfl⟩
end Go.Proofs.YtjagjkogloggpaaGreat
