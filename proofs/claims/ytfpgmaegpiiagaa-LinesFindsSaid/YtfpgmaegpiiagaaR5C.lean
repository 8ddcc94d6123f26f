/-
  Contract of the document's Read.
-/
import Derived.Test.YtfpgmaegpiiagaaL5I
import Derived.Test.YtfpgmaegpiiagaaR2D
namespace Go.Proofs.Ytfpgmaegpiiagaa
open Go.RowKit

/-- behind some steps -/
structure Wn (b : List UInt8) (k : Nat) (q : Rw) (ls : List Rw) : Prop where
  le : k ≤ b.length
  all : par r0 b = (par q (b.drop k)).map (ls ++ ·)
  inq : inF q
  few : ls.length ≤ k
theorem wn_start (b : List UInt8) : Wn b 0 r0 [] := ⟨by omega, by cases h : par r0 b <;> simp [h], inF_0, by simp⟩
theorem Wn.none {b : List UInt8} {k : Nat} {q : Rw} {ls : List Rw} (h : Wn b k q ls) (hk : k < b.length) (h0 : b[k].toNat ≠ 0) (hm : mv q b[k].toNat (b.drop (k + 1)) = Option.none) : reE b = 5 ∧ reL b = [] := by
  have ha := h.all
  rw [List.drop_eq_getElem_cons hk, par_none (fun e => h0 (by rw [e]; rfl)) hm] at ha
  refine re_none ?_
  unfold rdL
  rw [ha]
  rfl
theorem Wn.cut {b : List UInt8} {q : Rw} {ls : List Rw} (h : Wn b b.length q ls) : reE b = 5 ∧ reL b = [] := by
  have ha := h.all
  rw [List.drop_length, par_nil] at ha
  refine re_none ?_
  unfold rdL
  rw [ha]
  rfl
theorem Wn.more {b : List UInt8} {k : Nat} {q : Rw} {ls : List Rw} (h : Wn b k q ls) (hk : k < b.length) (h0 : b[k].toNat = 0) (hl : k + 1 ≠ b.length) : reE b = 5 ∧ reL b = [] := by
  have ha := h.all
  have e0 : b[k] = 0 := UInt8.toNat_inj.1 h0
  rw [List.drop_eq_getElem_cons hk, e0, par_end, if_neg (fun e => by have := congrArg List.length e; simp at this; omega)] at ha
  refine re_none ?_
  unfold rdL
  rw [ha]
  rfl
theorem Wn.end_ {b : List UInt8} {k : Nat} {q : Rw} {ls : List Rw} (h : Wn b k q ls) (hk : k < b.length) (h0 : b[k].toNat = 0) (hl : k + 1 = b.length) : par r0 b = some ls := by
  have ha := h.all
  have e0 : b[k] = 0 := UInt8.toNat_inj.1 h0
  rw [List.drop_eq_getElem_cons hk, e0, par_end, if_pos (List.eq_nil_of_length_eq_zero (by simp; omega))] at ha
  simpa using ha
theorem Wn.next {b : List UInt8} {k n : Nat} {q p : Rw} {ls : List Rw} (h : Wn b k q ls) (hk : k < b.length) (h0 : b[k].toNat ≠ 0) (hm : mv q b[k].toNat (b.drop (k + 1)) = some (p, n)) :
    Wn b (k + 1 + n) p (ls ++ if 3 ≤ b[k].toNat then [p] else []) := by
  have ha := h.all
  have hf := h.few
  have hle := mv_le hm
  rw [List.drop_eq_getElem_cons hk, par_some (fun e => h0 (by rw [e]; rfl)) hm, List.drop_drop] at ha
  refine ⟨by simp at hle; omega, ?_, mv_in hm, by split <;> simp <;> omega⟩
  rw [ha, Option.map_map]
  congr 1
  funext l
  simp only [Function.comp]
  split <;> simp
theorem refRight_n (A : Option Addr) (n c : Nat) (l : List Rw) (w : World) (hl : l.length = n) (hn : n ≤ 1099511627776) (h : RLies w w.heap.size A l) :
    Calls Try.prog 13 #[.slice A n c] w (RightR l w) := by
  subst hl; exact refRight_any A c l w hn h
theorem chk_no {p : Rw} {n : Nat} (h : p.pc < 0 ∨ 16777216 < p.pc ∨ p.pt < 0 ∨ 16777216 < p.pt) : chk p n = none := if_neg (fun g : inF p => by obtain ⟨a, b, c, d⟩ := g; omega)
theorem chk_yes {p : Rw} {n : Nat} (h : 0 ≤ p.pc ∧ p.pc ≤ 16777216 ∧ 0 ≤ p.pt ∧ p.pt ≤ 16777216) : chk p n = some (p, n) := if_pos h
/-- of a step 1, 2, 3 or another one -/
theorem mv_1 {q : Rw} {t : List UInt8} (hg : good false t) (hb : hv false t ≤ 16777216) : mv q 1 t = chk ⟨q.pc + hv false t, q.pt⟩ (lg t 10) := by
  unfold mv; rw [if_pos rfl, if_pos ⟨hg, hb⟩]
theorem mv_1big {q : Rw} {t : List UInt8} (hb : ¬ hv false t ≤ 16777216) : mv q 1 t = none := by
  unfold mv; rw [if_pos rfl, if_neg (fun g => hb g.2)]
theorem mv_1no {q : Rw} {t : List UInt8} (hg : ¬ good false t) : mv q 1 t = none := by
  unfold mv; rw [if_pos rfl, if_neg (fun g => hg g.1)]
theorem mv_2 {q : Rw} {t : List UInt8} (hg : good true t) : mv q 2 t = chk ⟨q.pc, q.pt + hv true t⟩ (lg t 10) := by
  unfold mv; rw [if_neg (by decide), if_pos rfl, if_pos hg]
theorem mv_2no {q : Rw} {t : List UInt8} (hg : ¬ good true t) : mv q 2 t = none := by
  unfold mv; rw [if_neg (by decide), if_pos rfl, if_neg hg]
theorem mv_3 {q : Rw} {t : List UInt8} (hq : inF q) : mv q 3 t = some (q, 0) := by
  unfold mv; rw [if_neg (by decide), if_neg (by decide), if_pos rfl]; exact if_pos hq
theorem mv_4 {q : Rw} {s : Nat} {t : List UInt8} (h : 4 ≤ s) : mv q s t = chk ⟨q.pc + ((s : Int) - 4) / 12, q.pt + (((s : Int) - 4) % 12 - 4)⟩ 0 := by
  unfold mv; rw [if_neg (by omega), if_neg (by omega), if_neg (by omega)]
  congr 2 <;> omega

set_option maxRecDepth 100000 in
set_option maxHeartbeats 4000000 in
theorem refRead_any (A : Option Addr) (c : Nat) (b : List UInt8) (w : World) (hn : b.length ≤ 1000000) (h : Lies w w.heap.size A b) :
    Calls Try.prog 17 #[.slice A b.length c] w (ReadR b w) := by
  go_enter Try.func17, Try.ntmps17
  go_wp2_with fail
  go_loopw [4, 5, 6, 7] (fun v x y i wr => ∃ (k : Nat) (q : Rw) (ls : List Rw), k ≤ b.length ∧ i = .int .i64 k ∧ x = .int .i64 q.pc ∧ y = .int .i64 q.pt ∧ Hid (ROwn wr w.heap.size v ls) ∧ Hid (Below w.heap.size w wr) ∧ Hid (Wn b k q ls)) (fun _ _ _ i _ => b.length - (intOf i).toNat)
  case atStart => exact ⟨0, r0, [], by omega, rfl, rfl, rfl, ROwn.nil _ _, Below.refl _ _, wn_start b⟩
  case round =>
    obtain ⟨k, q, ls, hk, rfl, rfl, rfl, hvo, hB, hW⟩ := hrel
    by_cases hlt : k < b.length
    · obtain ⟨q0, q1, q2, q3⟩ := hW.out.inq
      have hfew := hW.out.few
      have HLB := Lib.hid (h.below hB.out)
      have HLN := Lib.hid (show Lies wr wr.heap.size A b from (h.below hB.out).more hB.out.size)
      obtain ⟨g, o, hA, hg, c0⟩ := HLB.out.at_ hlt
      have hc : ((k + 1 : Nat) : Int) = (k : Int) + 1 := by omega
      by_cases h0 : b[k].toNat = 0
      · by_cases hl : k + 1 = b.length
        · have HP := Lib.hid (hW.out.end_ hlt h0 hl)
          rw [h0] at c0
          have hl1 : (k : Int) + 1 ≤ (b.length : Int) := by omega
          have hl2 : (b.length : Int) ≤ (k : Int) + 1 := by omega
          subst hA
          obtain ⟨A2, nl, c2, rfl, hnl, hcap, hA2, hL2⟩ := hvo.out.formN
          have HR := Lib.hid (refRight_n A2 nl c2 ls wr hnl.out (by rw [← hnl.out]; omega) hL2)
          unfold RightR at HR
          clear hW hl h0 hcap hA2 hL2
          cases hr : rightB ls
          · rw [hr] at HR
            have HE := Lib.hid (re_none (rd_par_no HP.out hr))
            clear hr
            go_wp2_with (go_at_call 13; refine HR.out.mono ?_; rintro e w2 ⟨rfl, hb2⟩)
            go_ret2
            refine ⟨_, by rw [HE.out.1]; rfl, ?_, hB.out.trans (hb2.mono hB.out.size)⟩
            rw [HE.out.2]
            exact ROwn.nil _ _
          · rw [hr] at HR
            have HE := Lib.hid (re_some (rd_par HP.out hr))
            clear hr
            go_wp2_with (go_at_call 13; refine HR.out.mono ?_; rintro e w2 ⟨rfl, hb2⟩)
            go_ret2
            refine ⟨_, by rw [HE.out.1]; rfl, ?_, hB.out.trans (hb2.mono hB.out.size)⟩
            rw [HE.out.2]
            exact hvo.out.below hb2
        · have HE := Lib.hid (hW.out.more hlt h0 hl)
          rw [h0] at c0
          have hl1 : ((k : Int) + 1 != (b.length : Int)) = true := by rw [bne_iff_ne]; omega
          subst hA
          clear hW hl h0
          go_wp2_with fail
          go_ret2
          refine ⟨_, by rw [HE.out.1]; rfl, ?_, hB.out⟩
          rw [HE.out.2]
          exact ROwn.nil _ _
      · have HNO := Lib.hid (fun hm => hW.out.none hlt h0 hm)
        have HNX := Lib.hid (fun (p : Rw) (n : Nat) hm => hW.out.next (p := p) (n := n) hlt h0 hm)
        have hdl : (b.drop (k + 1)).length = b.length - (k + 1) := by simp
        clear hW
        by_cases h1 : b[k].toNat = 1
        · rw [h1] at HNO HNX c0
          have HU := refU_any A c b ((k + 1 : Nat) : Int) wr (by omega) HLN.out
          unfold RdR at HU
          subst hA
          by_cases hgd : good false (b.drop (k + 1))
          · obtain ⟨e1, e2, e3⟩ := rd_ok (show k + 1 ≤ b.length by omega) hgd
            have hr := hv_rng hgd
            have hgl := good_le hgd
            simp only [rng, Bool.false_eq_true, if_false] at hr
            rw [e1, e2, e3, hc] at HU
            have HU2 := Lib.hid HU
            clear HU e1 e2 e3
            by_cases hb : hv false (b.drop (k + 1)) ≤ 16777216
            · rw [mv_1 hgd hb] at HNO
              have HNX2 := Lib.hid (fun p n => HNX.out p n)
              simp only [mv_1 hgd hb] at HNX2
              clear HNX hgd
              generalize hv false (b.drop (k + 1)) = x at *
              generalize lg (b.drop (k + 1)) 10 = n at *
              by_cases hp : q.pc + x ≤ 16777216
              · have HN := Lib.hid (HNX2.out ⟨q.pc + x, q.pt⟩ n (chk_yes ⟨by simp only; omega, hp, q2, q3⟩))
                simp only [show ¬ 3 ≤ 1 by decide, if_false, List.append_nil] at HN
                clear HNX2 HNO
                go_wp2_with (go_at_call 27; refine HU2.out.mono ?_; rintro e w2 ⟨rfl, hb2⟩)
                have hv2 := Lib.hid (hvo.out.below hb2)
                have hB2 := Lib.hid (hB.out.trans (hb2.mono hB.out.size))
                go_roundw
                case rel => exact ⟨k + 1 + n, ⟨q.pc + x, q.pt⟩, ls, by omega, by go_num, rfl, rfl, hv2, hB2, HN⟩
                case measure => simp [intOf]; omega
              · have HE := Lib.hid (HNO.out (chk_no (.inr (.inl (by simp only; omega)))))
                clear HNX2 HNO
                go_wp2_with (go_at_call 27; refine HU2.out.mono ?_; rintro e w2 ⟨rfl, hb2⟩)
                go_ret2
                refine ⟨_, by rw [HE.out.1]; rfl, ?_, hB.out.trans (hb2.mono hB.out.size)⟩
                rw [HE.out.2]
                exact ROwn.nil _ _
            · have HE := Lib.hid (HNO.out (mv_1big hb))
              clear HNX HNO hgd
              generalize hv false (b.drop (k + 1)) = x at *
              generalize lg (b.drop (k + 1)) 10 = n at *
              go_wp2_with (go_at_call 27; refine HU2.out.mono ?_; rintro e w2 ⟨rfl, hb2⟩)
              go_ret2
              refine ⟨_, by rw [HE.out.1]; rfl, ?_, hB.out.trans (hb2.mono hB.out.size)⟩
              rw [HE.out.2]
              exact ROwn.nil _ _
          · obtain ⟨e1, e2, e3⟩ := rd_form (show k + 1 ≤ b.length by omega) hgd
            rw [e1, e2, e3, hc] at HU
            have HU2 := Lib.hid HU
            have HE := Lib.hid (HNO.out (mv_1no hgd))
            clear HU e1 e2 e3 HNX HNO hgd
            go_wp2_with (go_at_call 27; refine HU2.out.mono ?_; rintro e w2 ⟨rfl, hb2⟩)
            go_ret2
            refine ⟨_, by rw [HE.out.1]; rfl, ?_, hB.out.trans (hb2.mono hB.out.size)⟩
            rw [HE.out.2]
            exact ROwn.nil _ _
        · by_cases h2 : b[k].toNat = 2
          · rw [h2] at HNO HNX c0
            have HU := refS_any A c b ((k + 1 : Nat) : Int) wr (by omega) HLN.out
            unfold RdR at HU
            subst hA
            by_cases hgd : good true (b.drop (k + 1))
            · obtain ⟨e1, e2, e3⟩ := rd_ok (show k + 1 ≤ b.length by omega) hgd
              have hr := hv_rng hgd
              have hgl := good_le hgd
              simp only [rng, if_true] at hr
              rw [e1, e2, e3, hc] at HU
              have HU2 := Lib.hid HU
              rw [mv_2 hgd] at HNO
              have HNX2 := Lib.hid (fun p n => HNX.out p n)
              simp only [mv_2 hgd] at HNX2
              clear HU e1 e2 e3 HNX hgd
              generalize hv true (b.drop (k + 1)) = x at *
              generalize lg (b.drop (k + 1)) 10 = n at *
              by_cases hx1 : 16777216 < x
              · have HE := Lib.hid (HNO.out (chk_no (.inr (.inr (.inr (by simp only; omega))))))
                clear HNX2 HNO
                go_wp2_with (go_at_call 28; refine HU2.out.mono ?_; rintro e w2 ⟨rfl, hb2⟩)
                go_ret2
                refine ⟨_, by rw [HE.out.1]; rfl, ?_, hB.out.trans (hb2.mono hB.out.size)⟩
                rw [HE.out.2]
                exact ROwn.nil _ _
              · by_cases hx2 : x < -16777216
                · have HE := Lib.hid (HNO.out (chk_no (.inr (.inr (.inl (by simp only; omega))))))
                  clear HNX2 HNO
                  go_wp2_with (go_at_call 28; refine HU2.out.mono ?_; rintro e w2 ⟨rfl, hb2⟩)
                  go_ret2
                  refine ⟨_, by rw [HE.out.1]; rfl, ?_, hB.out.trans (hb2.mono hB.out.size)⟩
                  rw [HE.out.2]
                  exact ROwn.nil _ _
                · by_cases hp1 : q.pt + x < 0
                  · have HE := Lib.hid (HNO.out (chk_no (.inr (.inr (.inl (by simp only; omega))))))
                    clear HNX2 HNO
                    go_wp2_with (go_at_call 28; refine HU2.out.mono ?_; rintro e w2 ⟨rfl, hb2⟩)
                    go_ret2
                    refine ⟨_, by rw [HE.out.1]; rfl, ?_, hB.out.trans (hb2.mono hB.out.size)⟩
                    rw [HE.out.2]
                    exact ROwn.nil _ _
                  · by_cases hp2 : 16777216 < q.pt + x
                    · have HE := Lib.hid (HNO.out (chk_no (.inr (.inr (.inr (by simp only; omega))))))
                      clear HNX2 HNO
                      go_wp2_with (go_at_call 28; refine HU2.out.mono ?_; rintro e w2 ⟨rfl, hb2⟩)
                      go_ret2
                      refine ⟨_, by rw [HE.out.1]; rfl, ?_, hB.out.trans (hb2.mono hB.out.size)⟩
                      rw [HE.out.2]
                      exact ROwn.nil _ _
                    · have HN := Lib.hid (HNX2.out ⟨q.pc, q.pt + x⟩ n (chk_yes ⟨q0, q1, by simp only; omega, by simp only; omega⟩))
                      simp only [show ¬ 3 ≤ 2 by decide, if_false, List.append_nil] at HN
                      clear HNX2 HNO
                      go_wp2_with (go_at_call 28; refine HU2.out.mono ?_; rintro e w2 ⟨rfl, hb2⟩)
                      have hv2 := Lib.hid (hvo.out.below hb2)
                      have hB2 := Lib.hid (hB.out.trans (hb2.mono hB.out.size))
                      go_roundw
                      case rel => exact ⟨k + 1 + n, ⟨q.pc, q.pt + x⟩, ls, by omega, by go_num, rfl, rfl, hv2, hB2, HN⟩
                      case measure => simp [intOf]; omega
            · obtain ⟨e1, e2, e3⟩ := rd_form (show k + 1 ≤ b.length by omega) hgd
              rw [e1, e2, e3, hc] at HU
              have HU2 := Lib.hid HU
              have HE := Lib.hid (HNO.out (mv_2no hgd))
              clear HU e1 e2 e3 HNX HNO hgd
              go_wp2_with (go_at_call 28; refine HU2.out.mono ?_; rintro e w2 ⟨rfl, hb2⟩)
              go_ret2
              refine ⟨_, by rw [HE.out.1]; rfl, ?_, hB.out.trans (hb2.mono hB.out.size)⟩
              rw [HE.out.2]
              exact ROwn.nil _ _
          · by_cases h3 : b[k].toNat = 3
            · rw [h3] at HNX c0
              have HN := Lib.hid (HNX.out q 0 (mv_3 ⟨q0, q1, q2, q3⟩))
              simp only [Nat.le_refl, if_true, Nat.add_zero] at HN
              clear HNX HNO
              subst hA
              have hnb := below_new wr (.cells (rK (q)) 42)
              have hr1 := Lib.hid (rowAt_new wr (q))
              have hO1 := Lib.hid (hvo.out.below hnb)
              have hB1 := Lib.hid (hB.out.trans (hnb.mono hB.out.size))
              unfold rK at hr1 hO1 hB1
              clear hnb
              go_wp2_with (at_builtin
                           refine app_row _ rfl (.tmp 97) (.tmp 101) rfl w.heap.size _ ls rfl hO1.out wr.heap.size 1 (q) rfl hr1.out (by omega) (by have := hB.out.size; simp; omega) ?_
                           intro v5 w5 ho5 hg5
                           have hB5 := Lib.hid (below_rgrown hB1.out hg5 hO1.out (by have := hB.out.size; simp; omega))
                           clear hg5)
              go_roundw
              case rel => exact ⟨k + 1, (q), ls ++ [(q)], by omega, by go_num, rfl, rfl, ho5, hB5, HN⟩
              case measure => simp [intOf]; omega
            · have hs : b[k].toNat < 256 := u8_lt _
              have hs4 : 4 ≤ b[k].toNat := by omega
              generalize b[k].toNat = s at *
              rw [mv_4 hs4] at HNO
              have HNX2 := Lib.hid (fun p n => HNX.out p n)
              simp only [mv_4 hs4, show 3 ≤ s by omega, if_true] at HNX2
              clear HNX h0 h1 h2 h3
              subst hA
              by_cases hp0 : 16777216 < q.pc + ((s : Int) - 4) / 12
              · have HE := Lib.hid (HNO.out (chk_no (.inr (.inl (by simp only; omega)))))
                clear HNX2 HNO
                go_wp2_with fail
                go_ret2
                refine ⟨_, by rw [HE.out.1]; rfl, ?_, hB.out⟩
                rw [HE.out.2]
                exact ROwn.nil _ _
              · by_cases hp1 : q.pt + (((s : Int) - 4) % 12 - 4) < 0
                · have HE := Lib.hid (HNO.out (chk_no (.inr (.inr (.inl (by simp only; omega))))))
                  clear HNX2 HNO
                  go_wp2_with fail
                  go_ret2
                  refine ⟨_, by rw [HE.out.1]; rfl, ?_, hB.out⟩
                  rw [HE.out.2]
                  exact ROwn.nil _ _
                · by_cases hp2 : 16777216 < q.pt + (((s : Int) - 4) % 12 - 4)
                  · have HE := Lib.hid (HNO.out (chk_no (.inr (.inr (.inr (by simp only; omega))))))
                    clear HNX2 HNO
                    go_wp2_with fail
                    go_ret2
                    refine ⟨_, by rw [HE.out.1]; rfl, ?_, hB.out⟩
                    rw [HE.out.2]
                    exact ROwn.nil _ _
                  · have HN := Lib.hid (HNX2.out ⟨q.pc + ((s : Int) - 4) / 12, q.pt + (((s : Int) - 4) % 12 - 4)⟩ 0 (chk_yes ⟨by simp only; omega, by simp only; omega, by simp only; omega, by simp only; omega⟩))
                    simp only [Nat.add_zero] at HN
                    clear HNX2 HNO
                    have hnb := below_new wr (.cells (rK (⟨q.pc + ((s : Int) - 4) / 12, q.pt + (((s : Int) - 4) % 12 - 4)⟩ : Rw)) 42)
                    have hr1 := Lib.hid (rowAt_new wr (⟨q.pc + ((s : Int) - 4) / 12, q.pt + (((s : Int) - 4) % 12 - 4)⟩ : Rw))
                    have hO1 := Lib.hid (hvo.out.below hnb)
                    have hB1 := Lib.hid (hB.out.trans (hnb.mono hB.out.size))
                    unfold rK at hr1 hO1 hB1
                    clear hnb
                    go_wp2_with (at_builtin
                                 refine app_row _ rfl (.tmp 97) (.tmp 101) rfl w.heap.size _ ls rfl hO1.out wr.heap.size 1 (⟨q.pc + ((s : Int) - 4) / 12, q.pt + (((s : Int) - 4) % 12 - 4)⟩ : Rw) rfl hr1.out (by omega) (by have := hB.out.size; simp; omega) ?_
                                 intro v5 w5 ho5 hg5
                                 have hB5 := Lib.hid (below_rgrown hB1.out hg5 hO1.out (by have := hB.out.size; simp; omega))
                                 clear hg5)
                    go_roundw
                    case rel => exact ⟨k + 1, (⟨q.pc + ((s : Int) - 4) / 12, q.pt + (((s : Int) - 4) % 12 - 4)⟩ : Rw), ls ++ [(⟨q.pc + ((s : Int) - 4) / 12, q.pt + (((s : Int) - 4) % 12 - 4)⟩ : Rw)], by omega, by go_num, rfl, rfl, ho5, hB5, HN⟩
                    case measure => simp [intOf]; omega
    · obtain rfl : k = b.length := by omega
      have HE := Lib.hid hW.out.cut
      clear hW
      go_wp2_with fail
      go_ret2
      refine ⟨_, by rw [HE.out.1]; rfl, ?_, hB.out⟩
      rw [HE.out.2]
      exact ROwn.nil _ _
end Go.Proofs.Ytfpgmaegpiiagaa
