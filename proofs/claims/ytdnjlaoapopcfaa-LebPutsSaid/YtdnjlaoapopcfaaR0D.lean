/-
  Contract of the law's helper Apart: byte slices that are each their own.
-/
import Derived.Test.YtdnjlaoapopcfaaR0C
import Derived.Deep.QuietTactic
import Derived.BigQuiet
namespace Go.Proofs.Ytdnjlaoapopcfaa
open Go.RowKit

/-- no two stand in one block -/
def Parted (vs : List Value) : Prop := ∀ i j (hi : i < vs.length) (hj : j < vs.length), i ≠ j → vs[i].ownBlock = none ∨ vs[i].ownBlock ≠ vs[j].ownBlock
def YesB (B : Nat) (w : World) (e : Ending) (w' : World) : Prop := e = .returned (.bool true) ∧ Below B w w'

theorem Row.kept {w w' : World} {h g : Nat} {vs : List Value} {L : List UInt8} (hr : Row w h vs) (hb : Blk w g L) (hg : w.grownBy w' (some g)) : Row w' h vs := by
  have hne : h ≠ g := by
    rintro rfl
    unfold Row at hr; unfold Blk at hb
    rw [hr] at hb
    simp at hb
  exact (hg.block h hr.lt (by simpa using hne)).trans hr
theorem Each.below {w w' : World} {B : Nat} {vs : List Value} {ls : List (List UInt8)} (h : Each w B vs ls) (hb : Below w.heap.size w w') : Each w' B vs ls :=
  ⟨h.1, fun i h1 h2 => (h.2 i h1 h2).below hb⟩
theorem has_mem {ls : List (List UInt8)} {x i q : Nat} (h : has ls.flatten x = false) (hi : i < ls.length) (hq : q < ls[i].length) : ls[i][q].toNat ≠ x := by
  intro e
  have : has ls.flatten x = true := by
    unfold has
    rw [List.any_eq_true]
    exact ⟨ls[i][q], List.mem_flatten.2 ⟨ls[i], List.getElem_mem _, List.getElem_mem _⟩, by simpa using e⟩
  rw [h] at this; cases this
theorem Own.blk {w : World} {B : Nat} {v : Value} {l : List UInt8} (h : Own w B v l) : (v = .slice none 0 0 ∧ l = []) ∨ ∃ g L, v = .slice (some ⟨g, 0, none⟩) l.length L.length ∧ B ≤ g ∧ l.length ≤ L.length ∧ Blk w g L ∧ l = L.take l.length ∧ L.length ≤ maxLen := by
  rcases h with h | ⟨g, r, rfl, hB, hm, hb⟩
  · exact .inl h
  · exact .inr ⟨g, l ++ r, by simp, hB, by simp, hb, by simp, by simpa using hm⟩
theorem fill_step (L : List UInt8) (x : UInt8) (k : Nat) (h : k < L.length) : (List.replicate k x ++ L.drop k).set k x = List.replicate (k + 1) x ++ L.drop (k + 1) := by
  rw [List.set_append_right _ _ (by simp), List.length_replicate, Nat.sub_self, List.drop_eq_getElem_cons h, List.set_cons_zero, List.replicate_succ']
  simp

theorem grown_setCell (w : World) (a : Addr) (u : Value) : w.grownBy (w.setCell a u) (some a.block) :=
  ⟨rfl, rfl, rfl, by simp [World.setCell], fun k _ hk => Below.heap_setCell _ _ _ _ (fun e => hk (by rw [e]))⟩
theorem each_kept {w w' : World} {B g k : Nat} {vs : List Value} {ls : List (List UInt8)} (h : Each w B vs ls) (hg : w.grownBy w' (some g)) (hd : Parted vs) (hk : k < vs.length) (hb : vs[k].ownBlock = some g)
    (ho : ∀ h2 : k < ls.length, Own w' B vs[k] ls[k]) : Each w' B vs ls :=
  ⟨h.1, fun i h1 h2 => by
    by_cases e : i = k
    · subst e; exact ho h2
    · refine (h.2 i h1 h2).kept hg ?_
      have := hd i k h1 hk e
      rwa [hb] at this⟩
/-- behind the writing over of the one that stands at place k: what the others have is not x -/
def Over (w : World) (B k x : Nat) (vs : List Value) : Prop := ∀ j (hj : j < vs.length), ∃ m, Own w B vs[j] m ∧ (j ≠ k → ∀ q (hq : q < m.length), m[q].toNat ≠ x)
theorem over_of {w w' : World} {B g k x : Nat} {vs : List Value} {ls : List (List UInt8)} (h : Each w B vs ls) (hg : w.grownBy w' (some g)) (hd : Parted vs) (hk : k < vs.length) (hb : vs[k].ownBlock = some g)
    (hx : has ls.flatten x = false) {m : List UInt8} (ho : Own w' B vs[k] m) : Over w' B k x vs := fun j hj => by
  by_cases e : j = k
  · subst e; exact ⟨m, ho, fun hne => absurd rfl hne⟩
  · refine ⟨ls[j]'(by have := h.1; omega), (h.2 j hj _).kept hg ?_, fun _ q hq => has_mem hx _ hq⟩
    have := hd j k hj hk e
    rwa [hb] at this
theorem over_nil {w : World} {B k x : Nat} {vs : List Value} {ls : List (List UInt8)} (h : Each w B vs ls) (hx : has ls.flatten x = false) : Over w B k x vs := fun j hj =>
  ⟨ls[j]'(by have := h.1; omega), h.2 j hj _, fun _ q hq => has_mem hx _ hq⟩

set_option maxRecDepth 100000 in
set_option maxHeartbeats 2000000 in
theorem apart_any (h B n : Nat) (vs : List Value) (ls : List (List UInt8)) (w : World) (hr : Row w h vs) (he : Each w B vs ls) (hd : Parted vs) (hc : ∀ i (hi : i < vs.length), capOf vs[i] ≤ 1099511627776) (hn : vs.length ≤ 1000) (hB : B ≤ w.heap.size) :
    Calls Try.prog 16 #[.slice (some ⟨h, 0, none⟩) vs.length n] w (YesB B w) := by
  have HD := Lib.hid hd
  have HC := Lib.hid hc
  clear hd hc
  go_enter Try.func16, Try.ntmps16
  go_wp2
  go_loopw [14] (fun i wr => ∃ k : Nat, k ≤ vs.length ∧ i = .int .i64 k ∧ Hid (Each wr B vs ls) ∧ Hid (Row wr h vs) ∧ Hid (Below B w wr)) (fun i _ => vs.length - (intOf i).toNat)
  case atStart => exact ⟨0, by omega, rfl, he, hr, Below.refl _ _⟩
  case round =>
    obtain ⟨k, hk, rfl, he1, hr1, hb1⟩ := hrel
    have hz1 := hb1.out.size
    clear he hr
    by_cases hlt : k < vs.length
    · go_wp2_with fail
      refine (spare_any h B n vs ls _ hr1.out he1.out hn).mono ?_
      rintro e w1 ⟨hsp, hs1⟩
      have he2 := Lib.hid (he1.out.below hs1)
      have hr2 := Lib.hid (hr1.out.below hs1 hr1.out.lt)
      have hb2 := Lib.hid (hb1.out.trans (hs1.mono (by omega)))
      have hz2 := hb2.out.size
      clear he1 hr1 hb1 hs1
      rcases hsp with ⟨x, hx, hx2, rfl⟩ | rfl
      · have HX := Lib.hid hx2
        clear hx2
        have hcell := hr2.out.cell hlt
        have hkl : k < ls.length := by have := he2.out.1; omega
        have HL := Lib.hid (show ls[k] = ls[k] from rfl)
        have hown := he2.out.2 k hlt hkl
        have hcap := HC.out k hlt
        obtain ⟨v, hv⟩ : ∃ v, v = vs[k] := ⟨_, rfl⟩
        rw [← hv] at hcell hown hcap
        have HV := Lib.hid hv
        clear hv HL
        rcases hown.blk with ⟨rfl, hl0⟩ | ⟨g, L, rfl, hgB, hlL, hbk, hlt2, hmL⟩
        · go_wp2_with fail
          go_quiet (fail)
          have he3 : Each (w1.drewN nq) B vs ls := he2.out
          have hr3 : Row (w1.drewN nq) h vs := hr2.out
          have hb3 : Below B w (w1.drewN nq) := hb2.out.trans (below_draws nq)
          clear he2 hr2 hb2
          generalize w1.drewN nq = w2 at *
          have hz3 := hb3.size
          have HR := Lib.hid hr3
          have HE := Lib.hid he3
          have HBL := Lib.hid hb3
          clear he3 hr3 hb3 hown hcap
          go_wp2_with fail
          refine (copyBytes_any none 0 [] _ (by simp) (Lies.empty _ _ _)).mono ?_
          rintro e w3 ⟨was, rfl, ho3, hbw3⟩
          have HR3 := Lib.hid (HR.out.below hbw3 HR.out.lt)
          have HE3 := Lib.hid (HE.out.below hbw3)
          have HBL3 := Lib.hid (HBL.out.trans (hbw3.mono (by omega)))
          obtain ⟨Aw, cw, rfl, hlw, hAw, hLw⟩ := ho3.form
          have HOV := Lib.hid (over_nil (k := k) HE3.out HX.out)
          have HRR := HR3
          clear HR HE HBL hbw3 ho3 hLw hAw
          go_wp2
          go_loop [38] (fun i => i = .int .i64 0) (fun i => 0)
          case atStart => rfl
          case round =>
            subst hrel
            go_wp2
            go_loop [48] (fun i => ∃ j : Nat, j ≤ vs.length ∧ i = .int .i64 j) (fun i => vs.length - (intOf i).toNat)
            case atStart => exact ⟨0, by omega, rfl⟩
            case round =>
              obtain ⟨j, hj, rfl⟩ := hrel
              by_cases hjl : j < vs.length
              · obtain ⟨m, hom, hmx⟩ := HOV.out j hjl
                have hcj := HRR.out.cell hjl
                have hml := hom.len
                obtain ⟨Am, cm, hvm, hlm, hAm, hLm⟩ := hom.form
                rw [hvm] at hcj
                have HMX := Lib.hid hmx
                clear hvm hom hmx
                go_wp2
                go_loop [56] (fun i => ∃ q : Nat, q ≤ m.length ∧ i = .int .i64 q) (fun i => m.length - (intOf i).toNat)
                case atStart => exact ⟨0, by omega, rfl⟩
                case round =>
                  obtain ⟨q, hq, rfl⟩ := hrel
                  by_cases hqm : q < m.length
                  · obtain ⟨gm, om, rfl, hgm, hcm⟩ := hLm.at_ hqm
                    by_cases hjk : j = k
                    · have bj : ((j : Int) != (k : Int)) = false := by simp [hjk]
                      clear hjk
                      go_wp2
                      go_round
                      case rel => exact ⟨q + 1, by omega, by go_num⟩
                      case measure => simp [intOf]; omega
                    · have bj : ((j : Int) != (k : Int)) = true := by rw [bne_iff_ne]; omega
                      have bx : ((m[q].toNat : Int) == (x : Int)) = false := by
                        have := HMX.out hjk q hqm
                        rw [beq_eq_false_iff_ne]; omega
                      go_wp2
                      go_round
                      case rel => exact ⟨q + 1, by omega, by go_num⟩
                      case measure => simp [intOf]; omega
                  · go_wp2
                    go_round
                    case rel => exact ⟨j + 1, by omega, by go_num⟩
                    case measure => simp [intOf]; omega
              · go_wp2_with (with_reducible refine copy_none _ rfl (.tmp 70) (.tmp 71) rfl none Aw 0 0 0 cw rfl rfl rfl ?_)
                go_roundw
                case rel => exact ⟨k + 1, by omega, by go_num, HE3, HR3, HBL3⟩
                case measure => simp [intOf]; omega
        · have hcL : L.length ≤ 1099511627776 := hcap
          generalize hlq : ls[k] = l at *
          have HLQ := Lib.hid hlq
          have HLT := Lib.hid hlt2
          have HBK := Lib.hid hbk
          have hmL := Lib.hid hmL
          clear hlq hlt2 hcap hown hbk
          have hcc : ¬ ((L.length : Int) < 0) := by omega
          go_wp2_with fail
          go_quiet (fail)
          have hbk2 : Blk (w1.drewN nq) g L := HBK.out
          have he3 : Each (w1.drewN nq) B vs ls := he2.out
          have hr3 : Row (w1.drewN nq) h vs := hr2.out
          have hb3 : Below B w (w1.drewN nq) := hb2.out.trans (below_draws nq)
          clear HBK he2 hr2 hb2
          generalize w1.drewN nq = w2 at *
          have hz3 := hb3.size
          have hgl := hbk2.lt
          have HR := Lib.hid hr3
          have HE := Lib.hid he3
          have HBL := Lib.hid hb3
          have HK := Lib.hid hbk2
          clear hbk2 he3 hr3 hb3
          go_wp2_with fail
          refine (copyBytes_any (some ⟨g, 0, none⟩) L.length L _ hcL (HK.out.lies (List.prefix_refl L) hgl)).mono ?_
          rintro e w3 ⟨was, rfl, ho3, hbw3⟩
          have HR3 := Lib.hid (HR.out.below hbw3 HR.out.lt)
          have HE3 := Lib.hid (HE.out.below hbw3)
          have HBL3 := Lib.hid (HBL.out.trans (hbw3.mono (by omega)))
          have HK3 := Lib.hid (HK.out.below hbw3 hgl)
          have HO := Lib.hid ho3
          clear HR HE HBL HK hbw3 ho3
          go_wp2
          go_loopw [38] (fun i wr => ∃ q : Nat, q ≤ L.length ∧ i = .int .i64 q ∧ Hid (Blk wr g (List.replicate q (UInt8.ofNat x) ++ L.drop q)) ∧ Hid (w3.grownBy wr (some g))) (fun i _ => L.length - (intOf i).toNat)
          case atStart => exact ⟨0, by omega, rfl, HK3, World.grownBy.refl _ _⟩
          case round =>
            obtain ⟨q, hq, rfl, hk4, hg4⟩ := hrel
            by_cases hlt3 : q < L.length
            · have hstore := hk4.out.store q (UInt8.ofNat x)
              rw [fill_step _ _ _ hlt3] at hstore
              have hb8 : b8 (UInt8.ofNat x) = .int .u8 x := by simp [b8]; omega
              rw [hb8] at hstore
              have HS := Lib.hid hstore
              have hg5 := Lib.hid (hg4.out.trans (grown_setCell wr ⟨g, q, none⟩ (.int .u8 x)))
              have hfz := hk4.out.frozen q
              have hcl := hk4.out.cell (j := q) (by simp; omega)
              clear hk4 hg4 hstore hb8
              go_wp2
              go_roundw
              case rel => exact ⟨q + 1, by omega, by go_num, HS, hg5⟩
              case measure => simp [intOf]; omega
            · obtain rfl : q = L.length := by omega
              have hk5 : Blk wr g (List.replicate L.length (UInt8.ofNat x)) := by simpa using hk4.out
              have HOV := Lib.hid (over_of HE3.out hg4.out HD.out hlt (by rw [← HV.out]; rfl) HX.out (m := List.replicate l.length (UInt8.ofNat x)) (by
                rw [← HV.out]
                have := Own.of hk5 hgB l.length (by simpa using hlL) (by simpa using hmL.out)
                simpa [Nat.min_eq_left hlL] using this))
              have HRR := Lib.hid (HR3.out.kept HK3.out hg4.out)
              have HG := Lib.hid hg4.out
              have HKK := Lib.hid hk5
              have how := HO.out.kept hg4.out (by
                cases hq : was.ownBlock with
                | none => exact .inl rfl
                | some b => exact .inr (fun e => by have := (HO.out.lt b hq).1; cases e; omega))
              obtain ⟨Aw, cw, rfl, hlw, hAw, hLw⟩ := how.form
              have HLW := Lib.hid hLw
              clear how
              clear hk4 hg4 hk5 hLw
              go_wp2
              go_loop [48] (fun i => ∃ j : Nat, j ≤ vs.length ∧ i = .int .i64 j) (fun i => vs.length - (intOf i).toNat)
              case atStart => exact ⟨0, by omega, rfl⟩
              case round =>
                obtain ⟨j, hj, rfl⟩ := hrel
                by_cases hjl : j < vs.length
                · obtain ⟨m, hom, hmx⟩ := HOV.out j hjl
                  have hcj := HRR.out.cell hjl
                  have hml := hom.len
                  obtain ⟨Am, cm, hvm, hlm, hAm, hLm⟩ := hom.form
                  rw [hvm] at hcj
                  have HMX := Lib.hid hmx
                  clear hvm hom hmx
                  go_wp2
                  go_loop [56] (fun i => ∃ q : Nat, q ≤ m.length ∧ i = .int .i64 q) (fun i => m.length - (intOf i).toNat)
                  case atStart => exact ⟨0, by omega, rfl⟩
                  case round =>
                    obtain ⟨q, hq, rfl⟩ := hrel
                    by_cases hqm : q < m.length
                    · obtain ⟨gm, om, rfl, hgm, hcm⟩ := hLm.at_ hqm
                      by_cases hjk : j = k
                      · have bj : ((j : Int) != (k : Int)) = false := by simp [hjk]
                        clear hjk
                        go_wp2
                        go_round
                        case rel => exact ⟨q + 1, by omega, by go_num⟩
                        case measure => simp [intOf]; omega
                      · have bj : ((j : Int) != (k : Int)) = true := by rw [bne_iff_ne]; omega
                        have bx : ((m[q].toNat : Int) == (x : Int)) = false := by
                          have := HMX.out hjk q hqm
                          rw [beq_eq_false_iff_ne]; omega
                        go_wp2
                        go_round
                        case rel => exact ⟨q + 1, by omega, by go_num⟩
                        case measure => simp [intOf]; omega
                    · go_wp2
                      go_round
                      case rel => exact ⟨j + 1, by omega, by go_num⟩
                      case measure => simp [intOf]; omega
                · go_wp2_with (with_reducible refine copy_blk _ rfl (.tmp 70) (.tmp 71) rfl g 0 _ HKK.out L.length L.length rfl Aw cw _ L rfl HLW.out L.length (Nat.min_self _) (by simp) ?_
                               intro w5 hk5 hg5)
                  have hkL : Blk w5 g L := by simpa using hk5
                  have hg6 := HG.out.trans hg5
                  have hO : ∀ h2 : k < ls.length, Own w5 B vs[k] ls[k] := fun h2 => by
                    rw [← HV.out, HLQ.out]
                    have := Own.of hkL hgB l.length hlL hmL.out
                    rwa [← HLT.out] at this
                  have hE := each_kept HE3.out hg6 HD.out hlt (by rw [← HV.out]; rfl) hO
                  have hR := HR3.out.kept HK3.out hg6
                  have hBB := HBL3.out.grown hg6 (by have := HBL3.out.size; omega) (fun q e => by cases e; exact hgB)
                  clear hk5 hg5 hkL hO
                  go_roundw
                  case rel => exact ⟨k + 1, by omega, by go_num, hE, hR, hBB⟩
                  case measure => simp [intOf]; omega
      · go_wp2
        go_ret
        exact ⟨rfl, hb2⟩
    · go_wp2
      go_ret
      exact ⟨rfl, hb1⟩
end Go.Proofs.Ytdnjlaoapopcfaa
