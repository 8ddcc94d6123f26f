/-
  Merged for a claim: L7Q, T9V.
-/
import Derived.Test.YtbkfkdiadeaooaaGreatHL7P
import Derived.Test.YtbkfkdiadeaooaaGreatHT9A
import Derived.Test.YtbkfkdiadeaooaaGreatHJ19
namespace Go.Proofs.YtbkfkdiadeaooaaGreat
open Go Go.RowKit

theorem runS_prefix {b : List UInt8} {k0 j k : Nat} {ls : List Sp} {last : Int} (h : runS b k0 j = some (ls, k, last)) : ∀ (m : Nat) {ls' : List Sp} {k' : Nat} {last' : Int}, runS b k0 (j + m) = some (ls', k', last') → ls <+: ls'
  | 0, ls', k', last', h' => by
    rw [Nat.add_zero, h] at h'
    simp only [Option.some.injEq, Prod.mk.injEq] at h'
    rw [h'.1]
    exact List.prefix_refl _
  | m + 1, ls', k', last', h' => by
    rw [← Nat.add_assoc, runS] at h'
    cases h1 : runS b k0 (j + m) with
    | none => rw [h1] at h'; cases h'
    | some s =>
      obtain ⟨ls1, k1, last1⟩ := s
      rw [h1] at h'
      simp only [Option.bind_some] at h'
      cases h2 : rdS b k1 last1 with
      | none => rw [h2] at h'; cases h'
      | some q =>
        rw [h2] at h'
        simp only [Option.map_some, Option.some.injEq, Prod.mk.injEq] at h'
        rw [← h'.1]
        exact (runS_prefix h m h1).trans (List.prefix_append _ _)
theorem prS_snd (xs : List Sp) : (prS xs).map Prod.snd = xs := by
  unfold prS
  rw [List.map_snd_zip]
  simp
theorem rightL_far {xs : List Sp} {x : Sp} (hx : x ∈ xs) (ht : 16777216 < x.t) : rightL xs = false := by
  cases h : rightL xs with
  | false => rfl
  | true =>
    unfold rightL at h
    rw [Bool.and_eq_true] at h
    rw [← prS_snd xs] at hx
    obtain ⟨q, hq, rfl⟩ := List.mem_map.1 hx
    have h1 := List.all_eq_true.1 h.2 q hq
    unfold okS at h1
    rw [Bool.and_eq_true, Bool.and_eq_true, Bool.and_eq_true] at h1
    have := of_decide_eq_true h1.2.2.1
    omega
theorem gotS_far {b : List UInt8} {k0 M j k : Nat} {ls : List Sp} {last : Int} {x : Sp} (h : runS b k0 j = some (ls, k, last)) (hj : j ≤ M) (hx : x ∈ ls) (ht : 16777216 < x.t) :
    ((runS b k0 M).bind fun s => if rightL s.1 = true then some (s.1, s.2.1) else none) = none := by
  cases h1 : runS b k0 M with
  | none => rfl
  | some s =>
    obtain ⟨ls', k', last'⟩ := s
    have hp := runS_prefix h (M - j) (by rw [show j + (M - j) = M by omega]; exact h1)
    simp only [Option.bind_some]
    rw [if_neg]
    rw [rightL_far (hp.subset hx) ht]
    decide
theorem refGet6_k (A : Option Addr) (c : Nat) (b : List UInt8) (k : Nat) (w : World) (hk : k ≤ b.length) (hn : b.length ≤ 1099511627776) (h : Lies w w.heap.size A b) :
    Calls Tryz.prog 77 #[.slice A b.length c, .int .i64 k] w fun e w' => Below w.heap.size w w' ∧ ((∃ A2 c2, gotO b k = none ∧ e = .returned (.tuple #[.slice A2 0 c2, .int .i64 0, .int .i64 5])) ∨ ∃ l n A2 c2, gotO b k = some (l, n) ∧ e = .returned (.tuple #[.slice A2 l.length c2, .int .i64 n, .int .i64 0]) ∧ LOwn w' w.heap.size (.slice A2 l.length c2) l) := by
  refine (refGet6_any A c b k w hn h).mono ?_
  rintro e w' ⟨v, rfl, ho, hb⟩
  refine ⟨hb, ?_⟩
  cases hg : gotO b k with
  | none =>
    obtain ⟨g1, g2, g3⟩ := ge_none hk hg
    rw [g2] at ho
    rw [g1, g3]
    obtain ⟨A2, c2, rfl, _⟩ := ho.form
    exact .inl ⟨A2, c2, rfl, rfl⟩
  | some q =>
    obtain ⟨l, n⟩ := q
    obtain ⟨g1, g2, g3⟩ := ge_some hk hg
    rw [g2] at ho
    rw [g1, g3]
    obtain ⟨A2, c2, rfl, _⟩ := ho.form
    exact .inr ⟨l, n, A2, c2, rfl, rfl, ho⟩
section
variable {ops : Array Oper} {rest : List Oper} {o : Oper} {a : Act} {Q : Exit → Act → World → Prop}
theorem app_sp (w : World) (hgd : o.guard = none) (s x : Operand) (ho : o.op = .call { callee := .builtin .append, args := #[s, x], argTypes := #[69, 69] })
    (B : Nat) (v : Value) (xs : List Sp) (hs : a.eval s = v) (hown : SpOwn w B v xs) (g c : Nat) (y : Ps) (hx : a.eval x = .slice (some ⟨g, 0, none⟩) 1 c) (hy : SpAt w g y) (hly : LOwn w B (.slice y.A y.a.length y.c) y.a)
    (hn : xs.length ≤ 1000000) (hB : B ≤ w.heap.size) (h : ∀ v' w', SpOwn w' B v' (xs ++ [y.sp]) → w.grownBy w' v.ownBlock → (∀ k, v.ownBlock = some k → B ≤ k) → wpList Tryz.prog ops Q rest (a.put o.dst v') w') : wpList Tryz.prog ops Q (o :: rest) a w := by
  obtain ⟨ps, e, hpo, hpm⟩ := hown
  refine app_span w hgd s x ho B v ps hs hpo g c y hx hy (by rw [← List.length_map (f := Ps.sp), e]; exact hn) hB fun v' w' h1 h2 => h v' w' ⟨ps ++ [y], by rw [List.map_append, e]; rfl, h1, fun p hp => ?_⟩ h2 (fun k e => (hpo.lt k e).1)
  rcases List.mem_append.1 hp with hp | hp
  · exact (hpm p hp).grown hpo h2
  · rw [List.mem_singleton] at hp
    subst hp
    exact hly.grown hpo h2
end

set_option maxRecDepth 100000 in
set_option maxHeartbeats 4000000 in
theorem refGet7_any (A : Option Addr) (c : Nat) (b : List UInt8) (i : Int) (w : World) (hn : b.length ≤ 1099511627776) (h : Lies w w.heap.size A b) :
    Calls Tryz.prog 47 #[.slice A b.length c, .int .i64 i] w (GetR7 b i w) := by
  by_cases h0 : i < 0
  · have HG := Lib.hid (gs_arg (b := b) (.inl h0))
    clear h
    go_enter Tryz.func47, Tryz.ntmps47
    go_wp2_with fail
    go_ret3
    exact ⟨_, by rw [HG.out.1, HG.out.2.2]; rfl, by rw [HG.out.2.1]; exact SpOwn.nil _ _, Below.refl _ _⟩
  by_cases h1 : (b.length : Int) < i
  · have HG := Lib.hid (gs_arg (b := b) (.inr h1))
    clear h
    go_enter Tryz.func47, Tryz.ntmps47
    go_wp2_with fail
    go_ret3
    exact ⟨_, by rw [HG.out.1, HG.out.2.2]; rfl, by rw [HG.out.2.1]; exact SpOwn.nil _ _, Below.refl _ _⟩
  obtain ⟨k, rfl⟩ : ∃ k : Nat, i = k := ⟨i.toNat, by omega⟩
  have hk : k ≤ b.length := by omega
  have HNU := Lib.hid (number7_any A c b k w hk hn h)
  unfold NumR at HNU
  cases hnum : num7 b k with
  | none =>
    have HG := Lib.hid (gs_none hk (by
      unfold gotS
      rw [if_neg]
      intro q
      unfold num7 at hnum
      rw [if_pos ⟨q.1, by omega⟩] at hnum
      cases hnum))
    rw [hnum] at HNU
    unfold numV at HNU
    clear hnum h
    go_enter Tryz.func47, Tryz.ntmps47
    go_wp2_with fail
    refine HNU.out.mono ?_
    rintro e w1 ⟨hb1, rfl⟩
    go_wp2_with fail
    go_ret3
    exact ⟨_, by rw [HG.out.1, HG.out.2.2]; rfl, by rw [HG.out.2.1]; exact SpOwn.nil _ _, hb1⟩
  | some xn =>
    obtain ⟨M, k0⟩ := xn
    obtain ⟨hgd, hM, hkk, hk1, hk0, hM2, _⟩ := num7_has hnum
    rw [hnum] at HNU
    unfold numV at HNU
    have HMany := Lib.hid (fun h16 => gotS_many (b := b) (k := k) h16)
    have HOf := Lib.hid (fun h16 => gotS_of (b := b) (k := k) (M := M) hgd hM h16 hkk)
    rw [hM] at HMany
    clear hgd hM hkk hnum
    by_cases h40 : 4000 < M
    · have HG := Lib.hid (gs_none hk (HMany.out (by omega)))
      have h40i : (4000 : Int) < M := by omega
      clear HMany HOf h
      go_enter Tryz.func47, Tryz.ntmps47
      go_wp2_with fail
      refine HNU.out.mono ?_
      rintro e w1 ⟨hb1, rfl⟩
      go_wp2_with fail
      go_ret3
      exact ⟨_, by rw [HG.out.1, HG.out.2.2]; rfl, by rw [HG.out.2.1]; exact SpOwn.nil _ _, hb1⟩
    · have h40i : (M : Int) ≤ 4000 := by omega
      have HOF := Lib.hid (HOf.out (by omega))
      have HM4 := Lib.hid h40
      have HL := Lib.hid h
      clear HMany HOf h40 h hM2
      go_enter Tryz.func47, Tryz.ntmps47
      go_wp2_with fail
      refine HNU.out.mono ?_
      rintro e w1 ⟨hb1, rfl⟩
      have HB1 := Lib.hid hb1
      clear hb1 HNU
      go_wp2_with fail
      go_loopw [8, 10, 11, 12] (fun nx v la i wr => ∃ (j k : Nat) (last : Int) (ls : List Sp), j ≤ M ∧ i = .int .i64 j ∧ nx = .int .i64 k ∧ la = .int .i64 last ∧ last ≤ 16777216 ∧ Hid (runS b k0 j = some (ls, k, last)) ∧ Hid (SpOwn wr w.heap.size v ls) ∧ Hid (Below w.heap.size w wr)) (fun _ _ _ i _ => M - (intOf i).toNat)
      case atStart => exact ⟨0, k0, 0, [], by omega, rfl, rfl, rfl, by omega, rfl, SpOwn.nil _ _, HB1⟩
      case round =>
        obtain ⟨j, kk, last, ls, hj, rfl, rfl, rfl, hla, hR, hO, hB⟩ := hrel
        have hwr := hB.out.size
        obtain ⟨r1, r2, r3, r4, _, r6⟩ := runS_has hk0 hR.out
        have HLI := Lib.hid ((HL.out.below hB.out).more hwr)
        by_cases hlt : j < M
        · have hjM : (j : Int) < M := by omega
          have HN1 := Lib.hid (number7_any A c b kk wr r2 hn HLI.out)
          unfold NumR at HN1
          have hln : ls.length ≤ 1000000 := by have := HM4.out; omega
          have HF := Lib.hid (fun (e : rdS b kk last = none) => gs_none hk (HOF.out.trans (gotS_few hR.out hlt e)))
          have HRB := Lib.hid r6
          clear r1 r3 r6
          cases h1 : num7 b kk with
          | none =>
            have HG := Lib.hid (HF.out (rdS_1 h1))
            rw [h1] at HN1
            unfold numV at HN1
            clear h1
            go_wp2_with fail
            refine HN1.out.mono ?_
            rintro e w2 ⟨hb2, rfl⟩
            have HB2 := Lib.hid (hB.out.trans (hb2.mono hwr))
            clear hb2
            go_wp2_with fail
            go_ret3
            exact ⟨_, by rw [HG.out.1, HG.out.2.2]; rfl, by rw [HG.out.2.1]; exact SpOwn.nil _ _, HB2.out⟩
          | some xn =>
            obtain ⟨gx, gn⟩ := xn
            obtain ⟨_, _, _, a1, a2, a3, _⟩ := num7_has h1
            rw [h1] at HN1
            unfold numV at HN1
            have HN2 := Lib.hid (fun w' hl => number7_any A c b gn w' a2 hn hl)
            unfold NumR at HN2
            cases h2 : num7 b gn with
            | none =>
              have HG := Lib.hid (HF.out (rdS_2 h1 h2))
              rw [h2] at HN2
              unfold numV at HN2
              clear h1 h2
              go_wp2_with fail
              refine HN1.out.mono ?_
              rintro e w2 ⟨hb2, rfl⟩
              have HL2 := Lib.hid (HLI.out.below hb2 |>.more hb2.size)
              have HB2 := Lib.hid (hB.out.trans (hb2.mono hwr))
              have hz2 := hb2.size
              clear hb2
              go_wp2_with fail
              refine (HN2.out _ HL2.out).mono ?_
              rintro e w3 ⟨hb3, rfl⟩
              have HB3 := Lib.hid (HB2.out.trans (hb3.mono HB2.out.size))
              clear hb3
              go_wp2_with fail
              go_ret3
              exact ⟨_, by rw [HG.out.1, HG.out.2.2]; rfl, by rw [HG.out.2.1]; exact SpOwn.nil _ _, HB3.out⟩
            | some yn =>
              obtain ⟨lx, ln⟩ := yn
              obtain ⟨_, _, _, b1, b2, b3, _⟩ := num7_has h2
              have HR3 := Lib.hid (rdS_3 (last := last) h1 h2)
              rw [h2] at HN2
              unfold numV at HN2
              clear h1 h2
              go_wp2_with fail
              refine HN1.out.mono ?_
              rintro e w2 ⟨hb2, rfl⟩
              have HL2 := Lib.hid (HLI.out.below hb2 |>.more hb2.size)
              have HB2 := Lib.hid (hB.out.trans (hb2.mono hwr))
              have HO2 := Lib.hid (hO.out.below hb2)
              clear hb2
              go_wp2_with fail
              refine (HN2.out _ HL2.out).mono ?_
              rintro e w3 ⟨hb3, rfl⟩
              have HL3 := Lib.hid (HL2.out.below hb3 |>.more hb3.size)
              have HB3 := Lib.hid (HB2.out.trans (hb3.mono HB2.out.size))
              have HO3 := Lib.hid (HO2.out.below hb3)
              clear hb3
              go_wp2_with fail
              refine (refGet6_k A c b ln w3 b2 hn HL3.out).mono ?_
              rintro e w4 ⟨hb4, ⟨A2, c2, hno, rfl⟩ | ⟨al, n, A2, c2, hgo, rfl, ho⟩⟩
              · rw [hno] at HR3
                have HG := Lib.hid (HF.out HR3.out)
                have HB4 := Lib.hid (HB3.out.trans (hb4.mono HB3.out.size))
                clear hb4 hno
                go_wp2_with fail
                go_ret3
                exact ⟨_, by rw [HG.out.1, HG.out.2.2]; rfl, by rw [HG.out.2.1]; exact SpOwn.nil _ _, HB4.out⟩
              · rw [hgo] at HR3
                have hz3 := HB3.out.size
                have HRS := Lib.hid (runS_succ hR.out HR3.out)
                have HB4 := Lib.hid (HB3.out.trans (hb4.mono hz3))
                have hz4 := HB4.out.size
                have hbn := below_lnew w4 (.cells (pK ⟨last + gx, last + gx + lx, al, A2, c2⟩) 77)
                have HO4 := Lib.hid ((HO3.out.below hb4).below hbn)
                have HY4 := Lib.hid (spAt_new w4 ⟨last + gx, last + gx + lx, al, A2, c2⟩)
                have HA4 := Lib.hid ((ho.below hbn).base hz3)
                have HB5 := Lib.hid (HB4.out.trans (hbn.mono hz4))
                unfold pK at HO4 HY4 HA4 HB5
                dsimp only at HO4 HY4 HA4 HB5
                clear hb4 hgo ho hbn
                by_cases hfar : 16777216 < last + gx + lx
                · have HG := Lib.hid (gs_none hk (HOF.out.trans (gotS_far (x := ⟨last + gx, last + gx + lx, al⟩) HRS.out (show j + 1 ≤ M by omega) (by simp) hfar)))
                  go_wp2_with (at_builtin
                               refine app_sp _ rfl (.tmp 75) (.tmp 86) rfl w.heap.size _ ls rfl HO4.out w4.heap.size 1 ⟨last + gx, last + gx + lx, al, A2, c2⟩ rfl HY4.out HA4.out hln (by simp; omega) ?_
                               intro v6 w6 ho6 hg6 hk6
                               have HB6 := Lib.hid (HB5.out.grown hg6 HB5.out.size hk6)
                               clear hg6 hk6)
                  go_ret3
                  exact ⟨_, by rw [HG.out.1, HG.out.2.2]; rfl, by rw [HG.out.2.1]; exact SpOwn.nil _ _, HB6.out⟩
                · go_wp2_with (at_builtin
                               refine app_sp _ rfl (.tmp 75) (.tmp 86) rfl w.heap.size _ ls rfl HO4.out w4.heap.size 1 ⟨last + gx, last + gx + lx, al, A2, c2⟩ rfl HY4.out HA4.out hln (by simp; omega) ?_
                               intro v6 w6 ho6 hg6 hk6
                               have HB6 := Lib.hid (HB5.out.grown hg6 HB5.out.size hk6)
                               have HO6 := Lib.hid ho6
                               clear hg6 hk6 ho6)
                  go_roundw
                  case rel => exact ⟨j + 1, n, last + gx + lx, _, by omega, by go_num, rfl, rfl, by omega, HRS, HO6, HB6⟩
                  case measure => simp [intOf]; omega
        · obtain rfl : j = M := by omega
          have hsm : ∀ x ∈ ls, x.a.length ≤ 16 := fun x hx => (r6 x hx).1
          have HEN := Lib.hid (gotS_end hR.out)
          have HM5 := HM4.out
          obtain ⟨A4, c4, ps4, rfl, e4, h41, h42, h43⟩ := hO.out.form
          have hln : ps4.length = ls.length := by have := congrArg List.length e4; simpa using this
          have HRT := Lib.hid (refRight7_any A4 c4 ps4 wr ⟨by omega, fun p hp => by
            have h1 := hsm p.sp (by rw [← e4]; exact List.mem_map_of_mem hp)
            have h2 : p.sp.a = p.a := rfl
            rw [h2] at h1
            omega⟩ h43)
          unfold BoolR at HRT
          rw [e4] at HRT
          clear hsm h43 e4 h42 r6 r1 r3 hln
          cases hrt : rightL ls
          · have HG := Lib.hid (gs_none hk (HOF.out.trans (HEN.out.trans (by rw [hrt]; rfl))))
            rw [hrt] at HRT
            clear hrt
            go_wp2_with fail
            refine HRT.out.mono ?_
            rintro e w5 ⟨rfl, hb5⟩
            have HB5 := Lib.hid (hB.out.trans (hb5.mono hwr))
            clear hb5
            go_wp2_with fail
            go_ret3
            exact ⟨_, by rw [HG.out.1, HG.out.2.2]; rfl, by rw [HG.out.2.1]; exact SpOwn.nil _ _, HB5.out⟩
          · have HG := Lib.hid (gs_some hk (HOF.out.trans (HEN.out.trans (by rw [hrt]; rfl))))
            rw [hrt] at HRT
            clear hrt
            go_wp2_with fail
            refine HRT.out.mono ?_
            rintro e w5 ⟨rfl, hb5⟩
            have HO5 := Lib.hid (hO.out.below hb5)
            have HB5 := Lib.hid (hB.out.trans (hb5.mono hwr))
            clear hb5
            go_wp2_with fail
            go_ret3
            exact ⟨_, by rw [HG.out.1, HG.out.2.2]; rfl, by rw [HG.out.2.1]; exact HO5.out, HB5.out⟩
end Go.Proofs.YtbkfkdiadeaooaaGreat

namespace Go.Proofs.YtbkfkdiadeaooaaGreat
open Go Go.RowKit

def DdAt (w : World) (gr : Nat) (A : Option Addr) (c : Nat) (b : List UInt8) (s : RS) : Prop := w.heap[gr]? = some (.cells (rdK A c b s) 60 (0, 0))
section
variable {w w' : World} {gr : Nat} {A : Option Addr} {c : Nat} {b : List UInt8} {s : RS}
theorem DdAt.lt (h : DdAt w gr A c b s) : gr < w.heap.size := (Array.getElem?_eq_some_iff.1 h).1
theorem DdAt.b0 (h : DdAt w gr A c b s) : w.cell? ⟨gr, 0, none⟩ = some (.slice A b.length c) := by
  unfold DdAt at h; simp [World.cell?, h, rdK]
theorem DdAt.a1 (h : DdAt w gr A c b s) : w.cell? ⟨gr, 1, none⟩ = some (.int .i64 s.at_) := by
  unfold DdAt at h; simp [World.cell?, h, rdK]
theorem DdAt.n2 (h : DdAt w gr A c b s) : w.cell? ⟨gr, 2, none⟩ = some (.bool s.no) := by
  unfold DdAt at h; simp [World.cell?, h, rdK]
theorem DdAt.frozen (h : DdAt w gr A c b s) (j : Nat) : w.frozen? ⟨gr, j, none⟩ = false := by
  unfold DdAt at h; simp [World.frozen?, h]
theorem DdAt.setA (h : DdAt w gr A c b s) (n : Int) : DdAt (w.setCell ⟨gr, 1, none⟩ (.int .i64 n)) gr A c b { s with at_ := n } := by
  unfold DdAt at h ⊢; simp only [World.setCell, Array.getElem?_modify, h]; simp [rdK]
theorem DdAt.setN (h : DdAt w gr A c b s) (x : Bool) : DdAt (w.setCell ⟨gr, 2, none⟩ (.bool x)) gr A c b { s with no := x } := by
  unfold DdAt at h ⊢; simp only [World.setCell, Array.getElem?_modify, h]; simp [rdK]
theorem DdAt.below {B : Nat} (h : DdAt w gr A c b s) (hb : Below B w w') (hg : gr < B) : DdAt w' gr A c b s := (hb.block gr hg).trans h
theorem DdAt.has (h : DdAt w gr A c b s) : HasT w gr 60 := ⟨_, _, h⟩
end
/-- what a method answers: its value, and where the reader stands then; nothing else is turned -/
def DkR (w : World) (gr : Nat) (A : Option Addr) (c : Nat) (b : List UInt8) (v : Value) (s : RS) (e : Ending) (w' : World) : Prop := e = .returned v ∧ DdAt w' gr A c b s ∧ w.grownBy w' (some gr)

set_option maxRecDepth 100000 in
set_option maxHeartbeats 4000000 in
theorem dnumber_no (gr : Nat) (A : Option Addr) (c : Nat) (b : List UInt8) (m at_ : Int) (w : World) (hr : DdAt w gr A c b ⟨at_, true⟩) :
    Calls Tryz.prog 21 #[.pointer (some ⟨gr, 0, none⟩), .int .i64 m] w (DkR w gr A c b (.int .i64 0) ⟨at_, true⟩) := by
  have c2 := hr.n2
  have HR := Lib.hid hr
  dsimp only at c2
  clear hr
  go_enter Tryz.func21, Tryz.ntmps21
  go_wp2
  go_ret
  exact ⟨rfl, HR.out, World.grownBy.refl _ _⟩
set_option maxRecDepth 100000 in
set_option maxHeartbeats 4000000 in
theorem dnumber_any (gr : Nat) (A : Option Addr) (c : Nat) (b : List UInt8) (m : Int) (s : RS) (w : World) (hm : 0 ≤ m ∧ m ≤ 16777216) (hbn : b.length ≤ 1099511627776) (hl : Lies w gr A b) (hr : DdAt w gr A c b s) :
    Calls Tryz.prog 21 #[.pointer (some ⟨gr, 0, none⟩), .int .i64 m] w (DkR w gr A c b (.int .i64 (dnX b m s)) (dnS b m s)) := by
  obtain ⟨at_, no⟩ := s
  cases no with
  | true =>
    obtain ⟨e1, e2⟩ := dn_no (b := b) (m := m) (s := ⟨at_, true⟩) rfl
    rw [e1, e2]
    exact dnumber_no gr A c b m at_ w hr
  | false =>
    have c0 := hr.b0
    have c1 := hr.a1
    have c2 := hr.n2
    have hlt := hr.lt
    have HR := Lib.hid hr
    have hcon := refU_any A c b at_ w.drew hbn (show Lies w w.heap.size A b from hl.more (Nat.le_of_lt hlt))
    unfold RdR at hcon
    have hrx := rdX_rng b at_
    have hX : dnX b m ⟨at_, false⟩ = (if rdE false b at_ = 0 then (if rdX false b at_ ≤ m then rdX false b at_ else 0) else 0) := rfl
    have hS : dnS b m ⟨at_, false⟩ = (if rdE false b at_ = 0 then (if rdX false b at_ ≤ m then ⟨rdN false b at_, false⟩ else ⟨at_, true⟩) else ⟨at_, true⟩) := rfl
    rw [hX, hS]
    dsimp only at c1 c2
    clear hr hl hX hS
    generalize rdE false b at_ = E at *
    generalize rdN false b at_ = N at *
    generalize rdX false b at_ = X0 at *
    have HCON := Lib.hid hcon
    obtain ⟨V, hV⟩ : ∃ V, (if E = 0 then (if X0 ≤ m then X0 else 0) else 0) = V := ⟨_, rfl⟩
    obtain ⟨S9, hS9⟩ : ∃ S9, (if E = 0 then (if X0 ≤ m then (⟨N, false⟩ : RS) else ⟨at_, true⟩) else ⟨at_, true⟩) = S9 := ⟨_, rfl⟩
    rw [hV, hS9]
    have HV := Lib.hid hV
    have HS9 := Lib.hid hS9
    clear hcon hV hS9
    go_enter Tryz.func21, Tryz.ntmps21
    go_wp2
    refine wp_region_held_drew (S := fun W9 => (W9.cell? ⟨gr, 0, none⟩ = some (.slice A b.length c) ∧ W9.cell? ⟨gr, 1, none⟩ = some (.int .i64 at_) ∧ W9.cell? ⟨gr, 2, none⟩ = some (.bool false))) (by kernel_rfl) (⟨c0, c1, c2⟩) (fun hHeld => ?_)
    refine heldTake (i := 0) (d := some 13) (v := ?_) rfl rfl (by kernel_rfl) (by kernel_rfl) (by kernel_rfl) (fun _ _ _ h => h) (by kernel_rfl) ?hyq_1 (by assumption) ?restq_1
    case hyq_1 => (intro W9 hSw; (try dsimp only at hSw); go_simp; try (with_reducible rfl))
    (try simp only [Act.put, List.setIfInBounds_toArray, List.set_cons_zero, List.set_cons_succ])
    refine heldTake (i := 1) (d := some 14) (v := ?_) rfl rfl (by kernel_rfl) (by kernel_rfl) (by kernel_rfl) (fun _ _ _ h => h) (by kernel_rfl) ?hyq_2 (by assumption) ?restq_2
    case hyq_2 => (intro W9 hSw; (try dsimp only at hSw); go_simp; try (with_reducible rfl))
    (try simp only [Act.put, List.setIfInBounds_toArray, List.set_cons_zero, List.set_cons_succ])
    refine heldTake (i := 2) (d := some 15) (v := ?_) rfl rfl (by kernel_rfl) (by kernel_rfl) (by kernel_rfl) (fun _ _ _ h => h) (by kernel_rfl) ?hyq_3 (by assumption) ?restq_3
    case hyq_3 => (intro W9 hSw; (try dsimp only at hSw); go_simp; try (with_reducible rfl))
    (try simp only [Act.put, List.setIfInBounds_toArray, List.set_cons_zero, List.set_cons_succ])
    refine heldTake (i := 3) (d := some 16) (v := ?_) rfl rfl (by kernel_rfl) (by kernel_rfl) (by kernel_rfl) (fun _ _ _ h => h) (by kernel_rfl) ?hyq_4 (by assumption) ?restq_4
    case hyq_4 => (intro W9 hSw; (try dsimp only at hSw); go_simp; try (with_reducible rfl))
    (try simp only [Act.put, List.setIfInBounds_toArray, List.set_cons_zero, List.set_cons_succ])
    refine heldTake (i := 4) (d := some 17) (v := ?_) rfl rfl (by kernel_rfl) (by kernel_rfl) (by kernel_rfl) (fun _ _ _ h => h) (by kernel_rfl) ?hyq_5 (by assumption) ?restq_5
    case hyq_5 => (intro W9 hSw; (try dsimp only at hSw); go_simp; try (with_reducible rfl))
    (try simp only [Act.put, List.setIfInBounds_toArray, List.set_cons_zero, List.set_cons_succ])
    refine heldTake (i := 5) (d := some 18) (v := ?_) rfl rfl (by kernel_rfl) (by kernel_rfl) (by kernel_rfl) (fun _ _ _ h => h) (by kernel_rfl) ?hyq_6 (by assumption) ?restq_6
    case hyq_6 => (intro W9 hSw; (try dsimp only at hSw); go_simp; try (with_reducible rfl))
    (try simp only [Act.put, List.setIfInBounds_toArray, List.set_cons_zero, List.set_cons_succ])
    refine heldTake (i := 6) (d := some 19) (v := ?_) rfl rfl (by kernel_rfl) (by kernel_rfl) (by kernel_rfl) (fun _ _ _ h => h) (by kernel_rfl) ?hyq_7 (by assumption) ?restq_7
    case hyq_7 => (intro W9 hSw; (try dsimp only at hSw); go_simp; try (with_reducible rfl))
    (try simp only [Act.put, List.setIfInBounds_toArray, List.set_cons_zero, List.set_cons_succ])
    refine heldTake (i := 7) (d := some 20) (v := ?_) rfl rfl (by kernel_rfl) (by kernel_rfl) (by kernel_rfl) (fun _ _ _ h => h) (by kernel_rfl) ?hyq_8 (by assumption) ?restq_8
    case hyq_8 => (intro W9 hSw; (try dsimp only at hSw); go_simp; try (with_reducible rfl))
    (try simp only [Act.put, List.setIfInBounds_toArray, List.set_cons_zero, List.set_cons_succ])
    refine wpAnyH_ready (rs := [8]) (by kernel_rfl) (by simp) ?_
    refine AllReadyH.cons rfl (fun K hK => ?_) AllReadyH.nil
    go_simp
    go_at_call 44
    refine HCON.out.mono ?_
    rintro e9 X ⟨rfl, hbX⟩
    have hbX : Below w.heap.size w X := below_of_drew hbX
    have HX := Lib.hid (HR.out.below hbX hlt)
    have hSX : (X.cell? ⟨gr, 0, none⟩ = some (.slice A b.length c) ∧ X.cell? ⟨gr, 1, none⟩ = some (.int .i64 at_) ∧ X.cell? ⟨gr, 2, none⟩ = some (.bool false)) := ⟨HX.out.b0, HX.out.a1, HX.out.n2⟩
    have HGX := Lib.hid (grown_below hbX (some gr))
    go_wp2_with fail
    refine hK.out _ _ hSX (fun hHeld => ?_)
    clear hK K
    (try simp only [Act.put, List.setIfInBounds_toArray, List.set_cons_zero, List.set_cons_succ])
    refine heldTake (i := 9) (d := some 12) (v := ?_) rfl rfl (by kernel_rfl) (by kernel_rfl) (by kernel_rfl) (fun _ _ _ h => h) (by kernel_rfl) ?hyq_9 (by assumption) ?restq_9
    case hyq_9 => (intro W9 hSw; (try dsimp only at hSw); go_simp; try (with_reducible rfl))
    (try simp only [Act.put, List.setIfInBounds_toArray, List.set_cons_zero, List.set_cons_succ])
    refine heldTake (i := 10) (d := some 22) (v := ?_) rfl rfl (by kernel_rfl) (by kernel_rfl) (by kernel_rfl) (fun _ _ _ h => h) (by kernel_rfl) ?hyq_10 (by assumption) ?restq_10
    case hyq_10 => (intro W9 hSw; (try dsimp only at hSw); go_simp; try (with_reducible rfl))
    (try simp only [Act.put, List.setIfInBounds_toArray, List.set_cons_zero, List.set_cons_succ])
    refine heldTake (i := 11) (d := some 23) (v := ?_) rfl rfl (by kernel_rfl) (by kernel_rfl) (by kernel_rfl) (fun _ _ _ h => h) (by kernel_rfl) ?hyq_11 (by assumption) ?restq_11
    case hyq_11 => (intro W9 hSw; (try dsimp only at hSw); go_simp; try (with_reducible rfl))
    (try simp only [Act.put, List.setIfInBounds_toArray, List.set_cons_zero, List.set_cons_succ])
    refine heldTake (i := 12) (d := some 24) (v := ?_) rfl rfl (by kernel_rfl) (by kernel_rfl) (by kernel_rfl) (fun _ _ _ h => h) (by kernel_rfl) ?hyq_12 (by assumption) ?restq_12
    case hyq_12 => (intro W9 hSw; (try dsimp only at hSw); go_simp; try (with_reducible rfl))
    (try simp only [Act.put, List.setIfInBounds_toArray, List.set_cons_zero, List.set_cons_succ])
    refine heldTake (i := 13) (d := some 5) (v := ?_) rfl rfl (by kernel_rfl) (by kernel_rfl) (by kernel_rfl) (fun _ _ _ h => h) (by kernel_rfl) ?hyq_13 (by assumption) ?restq_13
    case hyq_13 => (intro W9 hSw; (try dsimp only at hSw); go_simp; try (with_reducible rfl))
    (try simp only [Act.put, List.setIfInBounds_toArray, List.set_cons_zero, List.set_cons_succ])
    refine heldTake (i := 14) (d := some 6) (v := ?_) rfl rfl (by kernel_rfl) (by kernel_rfl) (by kernel_rfl) (fun _ _ _ h => h) (by kernel_rfl) ?hyq_14 (by assumption) ?restq_14
    case hyq_14 => (intro W9 hSw; (try dsimp only at hSw); go_simp; try (with_reducible rfl))
    (try simp only [Act.put, List.setIfInBounds_toArray, List.set_cons_zero, List.set_cons_succ])
    refine heldTake (i := 15) (d := some 7) (v := ?_) rfl rfl (by kernel_rfl) (by kernel_rfl) (by kernel_rfl) (fun _ _ _ h => h) (by kernel_rfl) ?hyq_15 (by assumption) ?restq_15
    case hyq_15 => (intro W9 hSw; (try dsimp only at hSw); go_simp; try (with_reducible rfl))
    (try simp only [Act.put, List.setIfInBounds_toArray, List.set_cons_zero, List.set_cons_succ])
    refine wpAnyH_done (by kernel_rfl) ?_ _
    have f1 := HX.out.frozen 1
    have f2 := HX.out.frozen 2
    obtain ⟨x0, x1, x2⟩ := hSX
    by_cases hE : E = 0
    · subst hE
      by_cases hXm : X0 ≤ m
      · have hw1 : IntKind.u64.wrap m = m := by rw [IntKind.wrap_u64]; omega
        have hw2 : IntKind.i64.wrap X0 = X0 := by rw [IntKind.wrap_i64]; omega
        have e1 : V = X0 := by rw [← HV.out, if_pos rfl, if_pos hXm]
        have e2 : S9 = ⟨N, false⟩ := by rw [← HS9.out, if_pos rfl, if_pos hXm]
        subst e1 e2
        have HY := Lib.hid (HX.out.setA N)
        clear HV HS9
        go_wp2
        go_ret
        exact ⟨rfl, HY.out, grown_trans HGX.out (grown_set _ _ _ _)⟩
      · have hw1 : IntKind.u64.wrap m = m := by rw [IntKind.wrap_u64]; omega
        have e1 : V = 0 := by rw [← HV.out, if_pos rfl, if_neg hXm]
        have e2 : S9 = ⟨at_, true⟩ := by rw [← HS9.out, if_pos rfl, if_neg hXm]
        have hXm' : m < X0 := by omega
        subst e1 e2
        have HY := Lib.hid (HX.out.setN true)
        clear HV HS9
        go_wp2
        go_ret
        exact ⟨rfl, HY.out, grown_trans HGX.out (grown_set _ _ _ _)⟩
    · have e1 : V = 0 := by rw [← HV.out, if_neg hE]
      have e2 : S9 = ⟨at_, true⟩ := by rw [← HS9.out, if_neg hE]
      subst e1 e2
      have hEb : (E != 0) = true := bne_iff_ne.2 hE
      have HY := Lib.hid (HX.out.setN true)
      clear HV HS9
      go_wp2
      go_ret
      exact ⟨rfl, HY.out, grown_trans HGX.out (grown_set _ _ _ _)⟩
end Go.Proofs.YtbkfkdiadeaooaaGreat
