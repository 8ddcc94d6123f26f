/-
  The walk of LebOne.
-/
import Derived.Test.YtdnjlaoapopcfaaL2W
import Derived.Test.YtdnjlaoapopcfaaR0A
import Derived.Deep.RegionHeld3
namespace Go.Proofs.Ytdnjlaoapopcfaa
open Go.RowKit

/-- what is read there is good, or not: with the bytes that stand there -/
inductive OneIs (b : Bool) (l : List UInt8) (i : Int) : Prop
  | good (k q : Nat) (P : List UInt8) (hi : i = k) (hq : 1 ≤ q) (hq2 : q ≤ 10) (hkq : k + q ≤ l.length) (hP : P = (l.drop k).take q) (hPl : P.length = q) (hN : nB b (rdX b l i) = P) (hr : rng b (rdX b l i)) (he : rdE b l i = 0) (hn : rdN b l i = (k : Int) + q)
  | bad (he : rdE b l i ≠ 0) (hx : rdX b l i = 0) (hn : rdN b l i = 0)
theorem oneIs (b : Bool) (l : List UInt8) (i : Int) : OneIs b l i := by
  by_cases hi : i < 0 ∨ (l.length : Int) < i
  · have h := rd_arg (b := b) hi
    exact .bad (by omega) h.2.1 h.2.2
  · obtain ⟨k, rfl⟩ : ∃ k : Nat, i = k := ⟨i.toNat, by omega⟩
    have hk : k ≤ l.length := by omega
    by_cases hg : good b (l.drop k)
    · have h := rd_ok hk hg
      obtain ⟨h1, h2, _, _⟩ := lg_has 10 _ hg.1
      have h0 := hg.1
      have hb := sm_bound ((l.drop k).take (lg (l.drop k) 10))
      rw [List.length_take, Nat.min_eq_left h2] at hb
      have hr := val_rng (b := b) hb.1 hb.2 (by omega) h1
      refine .good k (lg (l.drop k) 10) ((l.drop k).take (lg (l.drop k) 10)) rfl (by omega) h1 (by rw [List.length_drop] at h2; omega) rfl (by rw [List.length_take, Nat.min_eq_left h2]) ?_ ?_ h.1 h.2.2
      · rw [h.2.1]; exact (good_take hg).symm
      · rw [h.2.1]; exact hr
    · have h := rd_form hk hg
      exact .bad (by omega) h.2.1 h.2.2

def PutIs (P : List UInt8) (q : Nat) (w : World) (e : Ending) (w' : World) : Prop := ∃ A c, e = .returned (.slice A q c) ∧ Lies w' w'.heap.size A P ∧ Below w.heap.size w w'
theorem putIsU {x : Int} {P : List UInt8} {q : Nat} (w : World) (hr : rng false x) (hN : nB false x = P) (hl : P.length = q) : Calls Try.prog 10 #[.slice none 0 0, .int .u64 x] w (PutIs P q w) := by
  refine (putU_any none 0 [] x w (fun _ => rfl) (Lies.empty _ _ _) (by simp) hr.1 hr.2).mono ?_
  rintro e w' ⟨v, rfl, ho, hb, _⟩
  rw [List.nil_append, hN] at ho
  obtain ⟨A, c, rfl, _, _, hL⟩ := ho.form
  exact ⟨A, c, by rw [hl], hL, hb⟩
theorem putIsS {x : Int} {P : List UInt8} {q : Nat} (w : World) (hr : rng true x) (hN : nB true x = P) (hl : P.length = q) : Calls Try.prog 11 #[.slice none 0 0, .int .i64 x] w (PutIs P q w) := by
  refine (putS_any none 0 [] x w (fun _ => rfl) (Lies.empty _ _ _) (by simp) hr.1 hr.2).mono ?_
  rintro e w' ⟨v, rfl, ho, hb, _⟩
  rw [List.nil_append, hN] at ho
  obtain ⟨A, c, rfl, _, _, hL⟩ := ho.form
  exact ⟨A, c, by rw [hl], hL, hb⟩
theorem before_draw {w w2 : World} (h : Below w.drew.heap.size w.drew w2) : Below w.heap.size w w2 := ⟨h.os, h.tape, h.output, h.size, h.block⟩
theorem eqIs (A A2 : Option Addr) (c c2 B B2 : Nat) {P : List UInt8} {q q2 : Nat} (w : World) (hl : P.length = q) (hl2 : P.length = q2) (hq : q ≤ 10) (h : Lies w B A P) (h2 : Lies w B2 A2 P) :
    Calls Try.prog 12 #[.slice A q c, .slice A2 q2 c2] w fun e w' => e = .returned (.bool true) ∧ w = w' := by
  have := eqBytes_same A A2 c c2 P w B B2 (by omega) h h2
  subst hl; subst hl2; exact this

set_option maxRecDepth 100000 in
set_option maxHeartbeats 8000000 in
theorem lebOne_any (A : Option Addr) (c : Nat) (l : List UInt8) (i : Int) (w : World) (hlc : l.length ≤ c) (h : Lies w w.heap.size A l) :
    Calls Try.prog 6 #[.slice A l.length c, .int .i64 i] w (Yes w) := by
  by_cases hbig : 1024 < l.length
  · go_enter Try.func6, Try.ntmps6
    go_wp2_with fail
    refine (works_any _).mono ?_
    rintro e w' ⟨rfl, hb⟩
    go_wp2
    go_ret
    exact ⟨rfl, hb⟩
  · have hU := U_any A c l i w _ (by omega) h
    have hS := S_any A c l i w _ (by omega) h
    have hu := oneIs false l i
    have hs := oneIs true l i
    rcases hu with ⟨k, qu, Pu, rfl, hqu, hq2u, hkqu, hPu, hPlu, hNu, hru, heu, hnu⟩ | ⟨heu, hxu, hnu⟩
    · have hku' : k < l.length := by omega
      obtain ⟨gu, ou, Eu, hgu, _⟩ := h.at_ hku'
      subst Eu
      have hLbu : Lies w w.heap.size (some ⟨gu, ou + k, none⟩) Pu := fun _ => by
        refine ⟨gu, ou + k, rfl, by assumption, fun j hj => ?_⟩
        obtain ⟨g', o', e, _, hc'⟩ := h.at_ (show k + j < l.length by omega)
        cases e
        have : Pu[j] = l[k + j] := by subst hPu; simp
        rw [this, Nat.add_assoc]; exact hc'
      obtain ⟨mu, hmu⟩ : ∃ m : Nat, m = k + qu := ⟨_, rfl⟩
      have hn2u : rdN false l (k : Int) = mu := by rw [hnu, hmu]; simp
      rw [heu, hn2u] at hU
      generalize rdX false l (k : Int) = xu at *
      have HCu := Lib.hid hU
      have HPu := Lib.hid (fun W => putIsU W hru hNu hPlu)
      have HEu := Lib.hid (fun W A1 c1 B1 (h1 : Lies W B1 A1 Pu) (h2 : Lies W w.heap.size (some ⟨gu, ou + k, none⟩) Pu) => eqIs A1 (some ⟨gu, ou + k, none⟩) c1 (c - k) B1 w.heap.size W hPlu (show Pu.length = mu - k by omega) hq2u h1 h2)
      have hcku : ¬ (c = k) := by omega
      have hkcu : k ≤ c := by omega
      have hmcu : mu ≤ c := by omega
      have hkmu : k ≤ mu := by omega
      have e1u : IntKind.i64.wrap ((mu : Int) - (k : Int)) = (mu : Int) - (k : Int) := by rw [IntKind.wrap_i64]; omega
      have e2u : (0 : Int) ≤ (k : Int) := by omega
      have e3u : (k : Int) ≤ (mu : Int) := by omega
      have e4u : (mu : Int) ≤ (c : Int) := by omega
      have e5u : decide ((mu : Int) ≤ (k : Int)) = false := by simp; omega
      have e6u : decide ((l.length : Int) < (mu : Int)) = false := by simp; omega
      have e7u : decide ((10 : Int) < (mu : Int) - (k : Int)) = false := by simp; omega
      have e8u : decide (mu ≤ k) = false := by simp; omega
      have e9u : decide (l.length < mu) = false := by simp; omega
      clear hmu hn2u hU hPu hPlu hNu hru heu hnu
      rcases hs with ⟨ks, qs, Ps, hks, hqs, hq2s, hkqs, hPs, hPls, hNs, hrs, hes, hns⟩ | ⟨hes, hxs, hns⟩
      · obtain rfl : k = ks := by omega
        have hks' : k < l.length := by omega
        obtain ⟨gs, os, Es, hgs, _⟩ := h.at_ hks'
        cases Es
        have hLbs : Lies w w.heap.size (some ⟨gu, ou + k, none⟩) Ps := fun _ => by
          refine ⟨gu, ou + k, rfl, by assumption, fun j hj => ?_⟩
          obtain ⟨g', o', e, _, hc'⟩ := h.at_ (show k + j < l.length by omega)
          cases e
          have : Ps[j] = l[k + j] := by subst hPs; simp
          rw [this, Nat.add_assoc]; exact hc'
        obtain ⟨ms, hms⟩ : ∃ m : Nat, m = k + qs := ⟨_, rfl⟩
        have hn2s : rdN true l (k : Int) = ms := by rw [hns, hms]; simp
        rw [hes, hn2s] at hS
        generalize rdX true l (k : Int) = xs at *
        have HCs := Lib.hid hS
        have HPs := Lib.hid (fun W => putIsS W hrs hNs hPls)
        have HEs := Lib.hid (fun W A1 c1 B1 (h1 : Lies W B1 A1 Ps) (h2 : Lies W w.heap.size (some ⟨gu, ou + k, none⟩) Ps) => eqIs A1 (some ⟨gu, ou + k, none⟩) c1 (c - k) B1 w.heap.size W hPls (show Ps.length = ms - k by omega) hq2s h1 h2)
        have hcks : ¬ (c = k) := by omega
        have hkcs : k ≤ c := by omega
        have hmcs : ms ≤ c := by omega
        have hkms : k ≤ ms := by omega
        have e1s : IntKind.i64.wrap ((ms : Int) - (k : Int)) = (ms : Int) - (k : Int) := by rw [IntKind.wrap_i64]; omega
        have e2s : (0 : Int) ≤ (k : Int) := by omega
        have e3s : (k : Int) ≤ (ms : Int) := by omega
        have e4s : (ms : Int) ≤ (c : Int) := by omega
        have e5s : decide ((ms : Int) ≤ (k : Int)) = false := by simp; omega
        have e6s : decide ((l.length : Int) < (ms : Int)) = false := by simp; omega
        have e7s : decide ((10 : Int) < (ms : Int) - (k : Int)) = false := by simp; omega
        have e8s : decide (ms ≤ k) = false := by simp; omega
        have e9s : decide (l.length < ms) = false := by simp; omega
        clear hms hn2s hS hPs hPls hNs hrs hes hns
        go_enter Try.func6, Try.ntmps6
        go_wp2_with fail
        refine HCu.out.mono ?_
        rintro e w' ⟨rfl, rfl⟩
        go_wp2_with fail
        refine HCs.out.mono ?_
        rintro e w' ⟨rfl, rfl⟩
        go_wp2_with fail
        go_region_held3 (fun _ => True) (exact trivial) (first
          | (go_at_call 10; refine (HPu.out _).mono ?_; rintro e wu ⟨Au, cu, rfl, hLu, hbu⟩; have hMu : Lies wu w.heap.size _ Pu := Lies.below (by exact hLbu) (Below.mono hbu (by first | exact Nat.le_refl _ | exact hsz)))
          | (go_at_call 12; refine (HEu.out _ Au cu _ (by exact hLu) (by exact hMu)).mono ?_; rintro e w' ⟨rfl, rfl⟩))
        have hB1 : Below w.heap.size w wu := by first | exact hbu | exact before_draw hbu
        have hsz := hB1.size
        clear hbu hMu hLu
        have hLc := hLbs.below hB1
        go_wp2_with fail
        go_region_held3 (fun _ => True) (exact trivial) (first
          | (go_at_call 11; refine (HPs.out _).mono ?_; rintro e ws ⟨As, cs, rfl, hLs, hbs⟩; have hMs : Lies ws w.heap.size _ Ps := Lies.below (by exact hLc) (Below.mono hbs (by first | exact Nat.le_refl _ | exact hsz)))
          | (go_at_call 12; refine (HEs.out _ As cs _ (by exact hLs) (by exact hMs)).mono ?_; rintro e w' ⟨rfl, rfl⟩))
        have hB2 : Below w.heap.size w ws := hB1.trans (Below.mono (by first | exact hbs | exact before_draw hbs) hsz)
        clear hbs hMs hLs
        go_wp2_with fail
        refine (works_any _).mono ?_
        rintro e w9 ⟨rfl, hb9⟩
        have hfin := hB2.trans (hb9.mono hB2.size)
        go_wp2
        go_ret
        exact ⟨rfl, hfin⟩
      · rw [hxs, hns] at hS
        generalize rdE true l (k : Int) = fs at *
        have hfs : (fs == 0) = false := by rw [beq_eq_false_iff_ne]; exact hes
        have HCs := Lib.hid hS
        clear hS hes hxs hns
        go_enter Try.func6, Try.ntmps6
        go_wp2_with fail
        refine HCu.out.mono ?_
        rintro e w' ⟨rfl, rfl⟩
        go_wp2_with fail
        refine HCs.out.mono ?_
        rintro e w' ⟨rfl, rfl⟩
        go_wp2_with fail
        go_region_held3 (fun _ => True) (exact trivial) (first
          | (go_at_call 10; refine (HPu.out _).mono ?_; rintro e wu ⟨Au, cu, rfl, hLu, hbu⟩; have hMu : Lies wu w.heap.size _ Pu := Lies.below (by exact hLbu) (Below.mono hbu (by first | exact Nat.le_refl _ | exact hsz)))
          | (go_at_call 12; refine (HEu.out _ Au cu _ (by exact hLu) (by exact hMu)).mono ?_; rintro e w' ⟨rfl, rfl⟩))
        have hB1 : Below w.heap.size w wu := by first | exact hbu | exact before_draw hbu
        have hsz := hB1.size
        clear hbu hMu hLu
        go_wp2_with fail
        go_quiet (fail)
        have hB2 : Below w.heap.size w (wu.drewN nq) := hB1.trans (below_draws nq)
        go_wp2_with fail
        refine (works_any _).mono ?_
        rintro e w9 ⟨rfl, hb9⟩
        have hfin := hB2.trans (hb9.mono hB2.size)
        go_wp2
        go_ret
        exact ⟨rfl, hfin⟩
    · rw [hxu, hnu] at hU
      generalize rdE false l i = fu at *
      have hfu : (fu == 0) = false := by rw [beq_eq_false_iff_ne]; exact heu
      have HCu := Lib.hid hU
      clear hU heu hxu hnu
      rcases hs with ⟨k, qs, Ps, rfl, hqs, hq2s, hkqs, hPs, hPls, hNs, hrs, hes, hns⟩ | ⟨hes, hxs, hns⟩
      · have hks' : k < l.length := by omega
        obtain ⟨gs, os, Es, hgs, _⟩ := h.at_ hks'
        subst Es
        have hLbs : Lies w w.heap.size (some ⟨gs, os + k, none⟩) Ps := fun _ => by
          refine ⟨gs, os + k, rfl, by assumption, fun j hj => ?_⟩
          obtain ⟨g', o', e, _, hc'⟩ := h.at_ (show k + j < l.length by omega)
          cases e
          have : Ps[j] = l[k + j] := by subst hPs; simp
          rw [this, Nat.add_assoc]; exact hc'
        obtain ⟨ms, hms⟩ : ∃ m : Nat, m = k + qs := ⟨_, rfl⟩
        have hn2s : rdN true l (k : Int) = ms := by rw [hns, hms]; simp
        rw [hes, hn2s] at hS
        generalize rdX true l (k : Int) = xs at *
        have HCs := Lib.hid hS
        have HPs := Lib.hid (fun W => putIsS W hrs hNs hPls)
        have HEs := Lib.hid (fun W A1 c1 B1 (h1 : Lies W B1 A1 Ps) (h2 : Lies W w.heap.size (some ⟨gs, os + k, none⟩) Ps) => eqIs A1 (some ⟨gs, os + k, none⟩) c1 (c - k) B1 w.heap.size W hPls (show Ps.length = ms - k by omega) hq2s h1 h2)
        have hcks : ¬ (c = k) := by omega
        have hkcs : k ≤ c := by omega
        have hmcs : ms ≤ c := by omega
        have hkms : k ≤ ms := by omega
        have e1s : IntKind.i64.wrap ((ms : Int) - (k : Int)) = (ms : Int) - (k : Int) := by rw [IntKind.wrap_i64]; omega
        have e2s : (0 : Int) ≤ (k : Int) := by omega
        have e3s : (k : Int) ≤ (ms : Int) := by omega
        have e4s : (ms : Int) ≤ (c : Int) := by omega
        have e5s : decide ((ms : Int) ≤ (k : Int)) = false := by simp; omega
        have e6s : decide ((l.length : Int) < (ms : Int)) = false := by simp; omega
        have e7s : decide ((10 : Int) < (ms : Int) - (k : Int)) = false := by simp; omega
        have e8s : decide (ms ≤ k) = false := by simp; omega
        have e9s : decide (l.length < ms) = false := by simp; omega
        clear hms hn2s hS hPs hPls hNs hrs hes hns
        go_enter Try.func6, Try.ntmps6
        go_wp2_with fail
        refine HCu.out.mono ?_
        rintro e w' ⟨rfl, rfl⟩
        go_wp2_with fail
        refine HCs.out.mono ?_
        rintro e w' ⟨rfl, rfl⟩
        go_wp2_with fail
        go_quiet (fail)
        have hB1 : Below w.heap.size w (w.drewN nq) := below_draws nq
        have hsz := hB1.size
        generalize w.drewN nq = wu at *
        have hLc := hLbs.below hB1
        go_wp2_with fail
        go_region_held3 (fun _ => True) (exact trivial) (first
          | (go_at_call 11; refine (HPs.out _).mono ?_; rintro e ws ⟨As, cs, rfl, hLs, hbs⟩; have hMs : Lies ws w.heap.size _ Ps := Lies.below (by exact hLc) (Below.mono hbs (by first | exact Nat.le_refl _ | exact hsz)))
          | (go_at_call 12; refine (HEs.out _ As cs _ (by exact hLs) (by exact hMs)).mono ?_; rintro e w' ⟨rfl, rfl⟩))
        have hB2 : Below w.heap.size w ws := hB1.trans (Below.mono (by first | exact hbs | exact before_draw hbs) hsz)
        clear hbs hMs hLs
        go_wp2_with fail
        refine (works_any _).mono ?_
        rintro e w9 ⟨rfl, hb9⟩
        have hfin := hB2.trans (hb9.mono hB2.size)
        go_wp2
        go_ret
        exact ⟨rfl, hfin⟩
      · rw [hxs, hns] at hS
        generalize rdE true l i = fs at *
        have hfs : (fs == 0) = false := by rw [beq_eq_false_iff_ne]; exact hes
        have HCs := Lib.hid hS
        clear hS hes hxs hns
        go_enter Try.func6, Try.ntmps6
        go_wp2_with fail
        refine HCu.out.mono ?_
        rintro e w' ⟨rfl, rfl⟩
        go_wp2_with fail
        refine HCs.out.mono ?_
        rintro e w' ⟨rfl, rfl⟩
        go_wp2_with fail
        go_quiet (fail)
        have hB1 : Below w.heap.size w (w.drewN nq) := below_draws nq
        have hsz := hB1.size
        generalize w.drewN nq = wu at *
        go_wp2_with fail
        go_quiet (fail)
        have hB2 : Below w.heap.size w (wu.drewN nq) := hB1.trans (below_draws nq)
        go_wp2_with fail
        refine (works_any _).mono ?_
        rintro e w9 ⟨rfl, hb9⟩
        have hfin := hB2.trans (hb9.mono hB2.size)
        go_wp2
        go_ret
        exact ⟨rfl, hfin⟩
end Go.Proofs.Ytdnjlaoapopcfaa
