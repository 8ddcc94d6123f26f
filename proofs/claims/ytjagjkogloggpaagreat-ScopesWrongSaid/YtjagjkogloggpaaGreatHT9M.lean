/-
  Merged for a claim: T9M.
-/
import Derived.Test.YtjagjkogloggpaaGreatHT9L
import Derived.Test.YtjagjkogloggpaaGreatHT9J
namespace Go.Proofs.YtjagjkogloggpaaGreat
open Go Go.RowKit

def RngD (ls : List Plc) : Prop := ∀ p ∈ ls, ∀ l ∈ p.ss, ∀ y ∈ l, ∀ x ∈ y.a, x.Rng
def RngP (ps : List Pp) : Prop := ∀ p ∈ ps, ∀ r ∈ p.ss, ∀ q ∈ r.l, ∀ x ∈ q.a, x.Rng
theorem RngP.d {ps : List Pp} (h : RngP ps) : RngD (ps.map Pp.d) := fun p hp l hl y hy x hx => by
  obtain ⟨p', hp', rfl⟩ := List.mem_map.1 hp
  obtain ⟨r, hr, rfl⟩ := List.mem_map.1 hl
  obtain ⟨q, hq, rfl⟩ := List.mem_map.1 hy
  exact h p' hp' r hr q hq x hx
theorem RngD.p {ps : List Pp} {ls : List Plc} (e : ps.map Pp.d = ls) (h : RngD ls) : RngP ps := fun p hp r hr q hq x hx =>
  h p.d (by rw [← e]; exact List.mem_map_of_mem hp) r.d (List.mem_map_of_mem hr) q.sp (List.mem_map_of_mem hq) x hx
theorem own9_len {ps : List Pp} {qs : List Pq} (hr : right9 (ps.map Pp.d) (qs.map Pq.d) = true) (hs : SmT ps qs) (hx : RngP ps) : (own9 (ps.map Pp.d) (qs.map Pq.d)).length ≤ 5000000000 := by
  have hr0 := hr
  obtain ⟨⟨hl1, hl2⟩, _, _⟩ := right9_each hr
  unfold right9 at hr
  rw [Bool.and_eq_true, Bool.and_eq_true] at hr
  have h1 := enP9s_len (allP_of (Int.le_refl 0) hr.2.1 hs.1 hx)
  have hq := List.all_eq_true.1 hr.2.2
  have hv : ∀ p ∈ ps.map Pp.d, p.vs.length ≤ 64 := fun p hp => by
    obtain ⟨a, h1⟩ := okLs_mem hr.2.1 p hp
    unfold okL at h1
    rw [Bool.and_eq_true, Bool.and_eq_true] at h1
    have h2 := h1.2.2
    unfold holdB at h2
    rw [Bool.and_eq_true] at h2
    exact (of_decide_eq_true h2.1).1
  have h2 := enQs_len (qs := qs) (fun q hm => okQ_of hl1 hv (hq q.d (List.mem_map_of_mem hm)))
  rw [List.length_map] at hl1 hl2
  have n1 : (nB false ((ps.map Pp.d).length : Int)).length ≤ 10 := by rw [nB_len]; exact size_le _ _
  have n2 : (nB false ((qs.map Pq.d).length : Int)).length ≤ 10 := by rw [nB_len]; exact size_le _ _
  unfold own9
  simp only [List.length_append]
  omega
theorem own9_two {ls : List Plc} {qs : List Pnt} : 2 ≤ (own9 ls qs).length := by
  have n1 : 1 ≤ (nB false (ls.length : Int)).length := by rw [nB_len]; exact size_pos _ _
  have n2 : 1 ≤ (nB false (qs.length : Int)).length := by rw [nB_len]; exact size_pos _ _
  unfold own9
  simp only [List.length_append]
  omega
theorem sd_take0 {b l : List UInt8} (h : Sd b 0 l) : b.take l.length = l := by
  obtain ⟨a, r, rfl, h0⟩ := h
  have : a = [] := List.eq_nil_of_length_eq_zero h0
  subst this
  rw [List.nil_append, List.take_left]
theorem got_has0 {b : List UInt8} (h : gtE b 0 = 0) : right9 (gtL b 0).1 (gtQ b 0).1 = true ∧ RngD (gtL b 0).1 ∧ ∃ n : Nat, (gtQ b 0).2.1.at_ = n ∧ n = (own9 (gtL b 0).1 (gtQ b 0).1).length ∧ Sd b 0 (own9 (gtL b 0).1 (gtQ b 0).1) := by
  have := got_has9 (b := b) (i := 0)
  rw [show ((0 : Nat) : Int) = 0 from rfl] at this
  obtain ⟨h1, h2, n, h3, h4, h5⟩ := this h
  exact ⟨h1, fun p hp l hl => (h2 p hp l hl).2, n, h3, by omega, h5⟩
theorem get9_n (A : Option Addr) (n c : Nat) (b : List UInt8) (i : Int) (w : World) (hb : b.length = n) (hc : n ≤ c) (hn : n ≤ 1099511627776) (h : Lies w w.heap.size A b) :
    Calls Tryz.prog 14 #[.slice A n c, .int .i64 i] w (GetR9 b i w) := by subst hb; exact get9_any A c b i w hc hn h
/-- all that was handed in, and the box of the table -/
structure BkW (w : World) (A1 : Option Addr) (ah : List UInt8) (A : Option Addr) (c : Nat) (ps : List Pp) (A2 : Option Addr) (c2 : Nat) (qs : List Pq) (A3 : Option Addr) (be : List UInt8) (W : World) : Prop where
  b : Below w.heap.size w W
  z : w.heap.size < W.heap.size
  t : CAt W w.heap.size 35 [.slice A ps.length c, .slice A2 qs.length c2]
  l : TL W W.heap.size A ps
  u : UL W W.heap.size A2 qs
  a : Lies W W.heap.size A1 ah
  e : Lies W W.heap.size A3 be
theorem BkW.next {w W W' : World} {A1 A A2 A3 : Option Addr} {c c2 : Nat} {ah be : List UInt8} {ps : List Pp} {qs : List Pq} (h : BkW w A1 ah A c ps A2 c2 qs A3 be W) (hb : Below W.heap.size W W') : BkW w A1 ah A c ps A2 c2 qs A3 be W' :=
  ⟨h.b.trans (hb.mono (Nat.le_of_lt h.z)), Nat.lt_of_lt_of_le h.z hb.size, h.t.below hb h.z, h.l.next hb, h.u.next hb, (h.a.below hb).more hb.size, (h.e.below hb).more hb.size⟩
theorem BkW.cells {w W : World} {A1 A A2 A3 : Option Addr} {c c2 : Nat} {ah be : List UInt8} {ps : List Pp} {qs : List Pq} (h : BkW w A1 ah A c ps A2 c2 qs A3 be W) :
    W.cell? ⟨w.heap.size, 0, none⟩ = some (.slice A ps.length c) ∧ W.cell? ⟨w.heap.size, 1, none⟩ = some (.slice A2 qs.length c2) :=
  ⟨h.t.cell (j := 0) (by simp), h.t.cell (j := 1) (by simp)⟩

set_option maxRecDepth 100000 in
set_option maxHeartbeats 8000000 in
theorem scopesBack_any (A1 A A2 A3 : Option Addr) (c1 c c2 c3 : Nat) (ah : List UInt8) (ps : List Pp) (qs : List Pq) (be : List UInt8) (w : World)
    (hc1 : A1 = none → c1 = 0) (hc3 : A3 = none → c3 = 0) (hcb : be.length ≤ c3) (h1 : Lies w w.heap.size A1 ah) (hT : TIn w A c ps A2 c2 qs) (h3 : Lies w w.heap.size A3 be) :
    Calls Tryz.prog 5 #[.slice A1 ah.length c1, .agg #[.slice A ps.length c, .slice A2 qs.length c2], .slice A3 be.length c3] w (BoolR true w) := by
  have hb1 := below_lnew w (.cells #[.slice A ps.length c, .slice A2 qs.length c2] 35)
  have hk1 : BkW w A1 ah A c ps A2 c2 qs A3 be (w.alloc (.cells #[.slice A ps.length c, .slice A2 qs.length c2] 35)) :=
    ⟨hb1, by simp, heap_alloc_new w _, (hT.l.below hb1).more hb1.size, (hT.p.below hb1).more hb1.size, (h1.below hb1).more hb1.size, (h3.below hb1).more hb1.size⟩
  obtain ⟨w1, hw1⟩ : ∃ x, w.alloc (.cells #[.slice A ps.length c, .slice A2 qs.length c2] 35) = x := ⟨_, rfl⟩
  rw [hw1] at hk1
  have K1 := Lib.hid hk1
  obtain ⟨t0, t1⟩ := hk1.cells
  have HC := Lib.hid (And.intro hc1 hc3)
  have HX := Lib.hid (show RngP ps from hT.r)
  have HV := Lib.hid (vast9_any A A2 c c2 ps qs w1 hk1.l hk1.u)
  clear hb1 hk1 h1 h3 hT hc1 hc3
  go_enter Tryz.func5, Tryz.ntmps5
  by_cases ha : (1024 : Int) < (ah.length : Int)
  · go_wp2_with fail
    refine (works9_any _).mono ?_
    rintro e w' ⟨rfl, hb⟩
    go_wp2_with fail
    go_ret
    exact ⟨rfl, (K1.out.next hb).b⟩
  by_cases hbe : (4096 : Int) < (be.length : Int)
  · go_wp2_with fail
    refine (works9_any _).mono ?_
    rintro e w' ⟨rfl, hb⟩
    go_wp2_with fail
    go_ret
    exact ⟨rfl, (K1.out.next hb).b⟩
  go_wp2_with fail
  clear hw1
  refine HV.out.mono ?_
  rintro e w2 ⟨bv, rfl, hb2, hfew⟩
  have K2 := Lib.hid (K1.out.next hb2)
  have HFW := Lib.hid hfew
  clear hb2 hfew HV K1 t0 t1
  cases bv with
  | true =>
    go_wp2_with fail
    refine (works9_any _).mono ?_
    rintro e w' ⟨rfl, hb⟩
    go_wp2_with fail
    go_ret
    exact ⟨rfl, (K2.out.next hb).b⟩
  | false =>
    have HG := Lib.hid (HFW.out rfl)
    clear HFW
    have HT2 := Lib.hid (twin9_any A c ps w2.drew HG.out.1 HG.out.2.2.1 (K2.out.next (Below.refl _ _).drew).l)
    unfold MadeP at HT2
    obtain ⟨t0, t1⟩ := K2.out.cells
    go_wp2_with fail
    refine wp_region_held_drew (S := fun W9 => (W9.cell? ⟨w.heap.size, 0, none⟩ = some (.slice A ps.length c) ∧ W9.cell? ⟨w.heap.size, 1, none⟩ = some (.slice A2 qs.length c2))) (by kernel_rfl) (⟨t0, t1⟩) (fun hHeld => ?_)
    refine heldTake (i := 0) (d := some 36) (v := ?_) rfl rfl (by kernel_rfl) (by kernel_rfl) (by kernel_rfl) (fun _ _ _ h => h) (by kernel_rfl) ?hyq_1 (by assumption) ?restq_1
    case hyq_1 => (intro W9 hSw; (try dsimp only at hSw); go_simp; try (with_reducible rfl))
    (try simp only [Act.put, List.setIfInBounds_toArray, List.set_cons_zero, List.set_cons_succ])
    refine heldTake (i := 1) (d := some 37) (v := ?_) rfl rfl (by kernel_rfl) (by kernel_rfl) (by kernel_rfl) (fun _ _ _ h => h) (by kernel_rfl) ?hyq_2 (by assumption) ?restq_2
    case hyq_2 => (intro W9 hSw; (try dsimp only at hSw); go_simp; try (with_reducible rfl))
    (try simp only [Act.put, List.setIfInBounds_toArray, List.set_cons_zero, List.set_cons_succ])
    refine heldTake (i := 2) (d := some 38) (v := ?_) rfl rfl (by kernel_rfl) (by kernel_rfl) (by kernel_rfl) (fun _ _ _ h => h) (by kernel_rfl) ?hyq_3 (by assumption) ?restq_3
    case hyq_3 => (intro W9 hSw; (try dsimp only at hSw); go_simp; try (with_reducible rfl))
    (try simp only [Act.put, List.setIfInBounds_toArray, List.set_cons_zero, List.set_cons_succ])
    refine heldTake (i := 4) (d := some 40) (v := ?_) rfl rfl (by kernel_rfl) (by kernel_rfl) (by kernel_rfl) (fun _ _ _ h => h) (by kernel_rfl) ?hyq_4 (by assumption) ?restq_4
    case hyq_4 => (intro W9 hSw; (try dsimp only at hSw); go_simp; try (with_reducible rfl))
    (try simp only [Act.put, List.setIfInBounds_toArray, List.set_cons_zero, List.set_cons_succ])
    refine heldTake (i := 5) (d := some 41) (v := ?_) rfl rfl (by kernel_rfl) (by kernel_rfl) (by kernel_rfl) (fun _ _ _ h => h) (by kernel_rfl) ?hyq_5 (by assumption) ?restq_5
    case hyq_5 => (intro W9 hSw; (try dsimp only at hSw); go_simp; try (with_reducible rfl))
    (try simp only [Act.put, List.setIfInBounds_toArray, List.set_cons_zero, List.set_cons_succ])
    refine wpAnyH_ready (rs := [3]) (by kernel_rfl) (by simp) ?_
    refine AllReadyH.cons rfl (fun K hK => ?_) AllReadyH.nil
    go_simp
    go_at_call 20
    refine HT2.out.mono ?_
    rintro e9 X ⟨vX, rfl, hmX, hbX⟩
    have KX := Lib.hid ((K2.out.next (Below.refl _ _).drew).next hbX)
    obtain ⟨AX, cX, psX, rfl, heX, _, _, hlX⟩ := hmX.tl
    have HEX := Lib.hid heX
    have HLX := Lib.hid hlX
    have HTX := Lib.hid (twinPoints_any A2 c2 qs X HG.out.2.1 HG.out.2.2.2 KX.out.u)
    unfold MadeQ at HTX
    have hSX := KX.out.cells
    clear hmX hbX heX hlX HT2
    go_wp2_with fail
    refine hK.out _ _ hSX (fun hHeld => ?_)
    clear hK K
    (try simp only [Act.put, List.setIfInBounds_toArray, List.set_cons_zero, List.set_cons_succ])
    refine wpAnyH_ready (rs := [6]) (by kernel_rfl) (by simp) ?_
    refine AllReadyH.cons rfl (fun K hK => ?_) AllReadyH.nil
    go_simp
    go_at_call 21
    refine HTX.out.mono ?_
    rintro e9 Y ⟨vY, rfl, hmY, hbY⟩
    have KY := Lib.hid (KX.out.next hbY)
    obtain ⟨AY, cY, qsY, rfl, heY, _, _, hlY⟩ := hmY.ul
    have HEY := Lib.hid heY
    have HLY := Lib.hid (HLX.out.next hbY)
    have HSY := Lib.hid (fewT_like HEX.out heY HG.out).smT
    have HXY := Lib.hid (RngD.p HEX.out HX.out.d)
    have HPT := Lib.hid (put9_any A1 AX AY c1 cX cY ah psX qsY Y HC.out.1 KY.out.a (by omega) HLY.out hlY ⟨HSY.out, HXY.out⟩)
    unfold PutR9 at HPT
    rw [HEX.out, heY] at HPT
    have hSY := KY.out.cells
    clear hmY hbY heY hlY HTX KX HLX
    go_wp2_with fail
    refine hK.out _ _ hSY (fun hHeld => ?_)
    clear hK K
    (try simp only [Act.put, List.setIfInBounds_toArray, List.set_cons_zero, List.set_cons_succ])
    refine wpAnyH_ready (rs := [7]) (by kernel_rfl) (by simp) ?_
    refine AllReadyH.cons rfl (fun K hK => ?_) AllReadyH.nil
    go_simp
    go_at_call 26
    refine HPT.out.mono ?_
    rintro e9 Z ⟨vZ, rfl, hoZ, hbZ⟩
    have KZ := Lib.hid (KY.out.next hbZ)
    have HOZ := Lib.hid hoZ
    have hSZ := KZ.out.cells
    clear hoZ hbZ HPT
    go_wp2_with fail
    refine hK.out _ _ hSZ (fun hHeld => ?_)
    clear hK K
    (try simp only [Act.put, List.setIfInBounds_toArray, List.set_cons_zero, List.set_cons_succ])
    refine heldTake (i := 8) (d := some 35) (v := ?_) rfl rfl (by kernel_rfl) (by kernel_rfl) (by kernel_rfl) (fun _ _ _ h => h) (by kernel_rfl) ?hyq_6 (by assumption) ?restq_6
    case hyq_6 => (intro W9 hSw; (try dsimp only at hSw); go_simp; try (with_reducible rfl))
    (try simp only [Act.put, List.setIfInBounds_toArray, List.set_cons_zero, List.set_cons_succ])
    refine heldTake (i := 9) (d := some 44) (v := ?_) rfl rfl (by kernel_rfl) (by kernel_rfl) (by kernel_rfl) (fun _ _ _ h => h) (by kernel_rfl) ?hyq_7 (by assumption) ?restq_7
    case hyq_7 => (intro W9 hSw; (try dsimp only at hSw); go_simp; try (with_reducible rfl))
    (try simp only [Act.put, List.setIfInBounds_toArray, List.set_cons_zero, List.set_cons_succ])
    refine heldTake (i := 10) (d := some 45) (v := ?_) rfl rfl (by kernel_rfl) (by kernel_rfl) (by kernel_rfl) (fun _ _ _ h => h) (by kernel_rfl) ?hyq_8 (by assumption) ?restq_8
    case hyq_8 => (intro W9 hSw; (try dsimp only at hSw); go_simp; try (with_reducible rfl))
    (try simp only [Act.put, List.setIfInBounds_toArray, List.set_cons_zero, List.set_cons_succ])
    refine heldTake (i := 11) (d := some 8) (v := ?_) rfl rfl (by kernel_rfl) (by kernel_rfl) (by kernel_rfl) (fun _ _ _ h => h) (by kernel_rfl) ?hyq_9 (by assumption) ?restq_9
    case hyq_9 => (intro W9 hSw; (try dsimp only at hSw); go_simp; try (with_reducible rfl))
    (try simp only [Act.put, List.setIfInBounds_toArray, List.set_cons_zero, List.set_cons_succ])
    refine heldTake (i := 12) (d := some 9) (v := ?_) rfl rfl (by kernel_rfl) (by kernel_rfl) (by kernel_rfl) (fun _ _ _ h => h) (by kernel_rfl) ?hyq_10 (by assumption) ?restq_10
    case hyq_10 => (intro W9 hSw; (try dsimp only at hSw); go_simp; try (with_reducible rfl))
    (try simp only [Act.put, List.setIfInBounds_toArray, List.set_cons_zero, List.set_cons_succ])
    refine wpAnyH_done (by kernel_rfl) ?_ _
    clear hHeld hSY hSX KY HLY HSY HXY HEX HEY t0 t1 K2
    have HR := Lib.hid (right9_any A A2 c c2 ps qs Z HG.out.smT KZ.out.l KZ.out.u)
    unfold BoolR at HR
    obtain ⟨t0, t1⟩ := hSZ
    cases hrt : right9 (ps.map Pp.d) (qs.map Pq.d) with
    | true =>
      rw [hrt] at HR
      have q1 : ptE9 (ps.map Pp.d) (qs.map Pq.d) = 0 := if_pos hrt
      have q2 : ptB9 ah (ps.map Pp.d) (qs.map Pq.d) = ah ++ own9 (ps.map Pp.d) (qs.map Pq.d) := if_pos hrt
      rw [q2] at HOZ
      rw [q1]
      have HGT := Lib.hid (got_put9 (b := ah ++ own9 (ps.map Pp.d) (qs.map Pq.d) ++ be) (i := ah.length) hrt HX.out.d ⟨ah, be, rfl, rfl⟩)
      have hol := own9_len hrt HG.out.smT HX.out
      have hbl : (ah ++ own9 (ps.map Pp.d) (qs.map Pq.d)).length ≤ 5000002000 := by rw [List.length_append]; omega
      obtain ⟨B3, n3, d3, rfl, hn3, hn3c, _, hL3⟩ := HOZ.out.formN
      have hN : ((ah.length + (own9 (ps.map Pp.d) (qs.map Pq.d)).length : Nat) : Int) = (n3 : Int) := by rw [← hn3.out, List.length_append]
      rw [hN] at HGT
      have HM3 := Lib.hid hL3
      clear q1 q2 hrt HOZ hL3 hN hol
      generalize ah ++ own9 (ps.map Pp.d) (qs.map Pq.d) = bb at *
      go_wp2_with fail
      refine HR.out.mono ?_
      rintro e w4 ⟨rfl, hb4⟩
      have K4 := Lib.hid (KZ.out.next hb4)
      have HM4 := Lib.hid ((HM3.out.below hb4).more hb4.size)
      clear hb4 HM3 t0 t1 KZ HR
      go_wp2_with fail
      refine (copyB7_n B3 n3 d3 bb w4 hn3.out (by rw [← hn3.out]; omega) HM4.out).mono ?_
      rintro e w5 ⟨t5, rfl, ho5, hb5⟩
      have HO5 := Lib.hid ho5
      have HB5 := Lib.hid hb5
      have K5 := Lib.hid (K4.out.next hb5)
      have g5 := hb5.size
      clear ho5 hb5
      go_wp2_with (at_builtin
                   refine app_slice _ rfl (.tmp 58) (.tmp 59) rfl w4.heap.size t5 bb rfl HO5.out A3 c3 w5.heap.size be rfl HC.out.2 K5.out.e (by omega) g5 ?_
                   intro t6 w6 ho6 hg6
                   have HB6 := Lib.hid (below_grown HB5.out hg6 HO5.out g5)
                   have HO6 := Lib.hid ho6
                   clear hg6 ho6)
      have K6 := Lib.hid (K4.out.next HB6.out)
      obtain ⟨B6, n6, d6, rfl, hn6, hc6, _, hL6⟩ := HO6.out.formN
      have HG6 := Lib.hid (get9_n B6 n6 d6 (bb ++ be) (ah.length : Int) w6 hn6.out hc6 (by rw [← hn6.out, List.length_append]; omega) hL6)
      unfold GetR9 at HG6
      rw [if_pos HGT.out.1, if_pos HGT.out.1, if_pos HGT.out.1, HGT.out.1, HGT.out.2.1, HGT.out.2.2.1, HGT.out.2.2.2] at HG6
      clear hL6 HO6 HB6 K5 HO5 HB5
      refine HG6.out.mono ?_
      rintro e w7 ⟨v7, u7, rfl, ho7, hq7, hb7⟩
      obtain ⟨B7, d7, ps7, rfl, e7, _, _, hL7⟩ := ho7.form
      obtain ⟨C7, f7, qs7, rfl, e8, _, _, hQ7⟩ := hq7.form
      have K7 := Lib.hid (K6.out.next hb7)
      have HFF := Lib.hid (fewT_like e7 e8 HG.out)
      have HSM := Lib.hid (same9_any B7 A d7 c ps7 ps w7 e7 HFF.out.same.1 HFF.out.same.2 hL7 K7.out.l)
      have HQ7 := Lib.hid hQ7
      have HE8 := Lib.hid e8
      obtain ⟨t0, t1⟩ := K7.out.cells
      clear ho7 hq7 hL7 hQ7 hb7 HG6 e7 e8 K6
      go_wp2_with fail
      refine HSM.out.mono ?_
      rintro e w8 ⟨rfl, hb8⟩
      have K8 := Lib.hid (K7.out.next hb8)
      have HSP := Lib.hid (samePoints_any C7 A2 f7 c2 qs7 qs w8 HE8.out HFF.out.samep.1 HFF.out.samep.2 (HQ7.out.next hb8) K8.out.u)
      clear t0 t1
      obtain ⟨t0, t1⟩ := K8.out.cells
      clear hb8 HSM K7
      go_wp2_with fail
      refine HSP.out.mono ?_
      rintro e wa ⟨rfl, hba⟩
      have KA := Lib.hid (K8.out.next hba)
      clear hba HSP K8 t0 t1
      go_wp2_with fail
      refine (get9_any A3 c3 be 0 wa hcb (by omega) KA.out.e).mono ?_
      rintro e wb ⟨v7, u7, rfl, ho7, hq7, hb7⟩
      have KB := Lib.hid (KA.out.next hb7)
      clear hb7 KA
      by_cases hgt : gtE be 0 = 0
      · obtain ⟨hr, hsp, n, hn, hn2, hsd⟩ := got_has0 hgt
        rw [if_pos hgt] at ho7 hq7 ⊢
        rw [hgt, hn]
        obtain ⟨B7, d7, ps7, rfl, e7, _, _, hL7⟩ := ho7.form
        obtain ⟨C7, f7, qs7, rfl, e8, _, _, hQ7⟩ := hq7.form
        have HS7 := Lib.hid (got_sm be _ _ ps7 qs7 e7 e8)
        have HX7 := Lib.hid (RngD.p e7 hsp)
        have hle := hsd.le
        have h2 : 2 ≤ n := by rw [hn2]; exact own9_two
        have htk : be.take n = own9 (gtL be 0).1 (gtQ be 0).1 := by rw [hn2]; exact sd_take0 hsd
        have HP8 := Lib.hid (put9_any none B7 C7 0 d7 f7 [] ps7 qs7 wb (fun _ => rfl) (Lies.empty _ _ _) (by simp) hL7 hQ7 ⟨HS7.out, HX7.out⟩)
        unfold PutR9 at HP8
        rw [e7, e8, show ptE9 (gtL be 0).1 (gtQ be 0).1 = 0 from if_pos hr, show ptB9 [] (gtL be 0).1 (gtQ be 0).1 = [] ++ own9 (gtL be 0).1 (gtQ be 0).1 from if_pos hr, List.nil_append] at HP8
        obtain ⟨m, hm⟩ : ∃ m, own9 (gtL be 0).1 (gtQ be 0).1 = m := ⟨_, rfl⟩
        rw [hm] at HP8 htk
        have HR7 := Lib.hid (fun w' (hb : Below wb.heap.size wb w') => right9_any B7 C7 d7 f7 ps7 qs7 w' HS7.out (hL7.next hb) (hQ7.next hb))
        unfold BoolR at HR7
        rw [e7, e8, hr] at HR7
        have hnb : n ≤ be.length := by omega
        have hni : (n : Int) ≤ (be.length : Int) := by omega
        have hn2i : (2 : Int) ≤ (n : Int) := by omega
        have hnc : n ≤ c3 := by omega
        have HON := Lib.hid (show m.length = n by rw [← htk, List.length_take]; omega)
        have HTK := Lib.hid htk
        obtain ⟨g7, o7, hA3, _, _⟩ := KB.out.e (by omega)
        clear hr hsp hn hn2 hsd ho7 hq7 e7 e8 hL7 hQ7 htk hle hgt hm
        subst hA3
        go_wp2_with fail
        refine HP8.out.mono ?_
        rintro e wc ⟨t8, rfl, ho8, hb8⟩
        obtain ⟨B8, n8, d8, rfl, hn8, _, _, hL8⟩ := ho8.formN
        have HLc := Lib.hid hL8
        have KC := Lib.hid (KB.out.next hb8)
        have HR8 := Lib.hid (HR7.out wc hb8)
        clear ho8 hL8 hb8 HP8 HR7 KB
        go_wp2_with fail
        refine HR8.out.mono ?_
        rintro e wd_ ⟨rfl, hb9⟩
        have KD := Lib.hid (KC.out.next hb9)
        have HEQ := Lib.hid (eqB7_n B8 (some ⟨g7, o7, none⟩) d8 c3 _ _ n8 n m wd_ hn8.out HON.out (by rw [← hn8.out, HON.out]; omega) (HLc.out.below hb9) (by have := KD.out.e.take7 n; rw [HTK.out] at this; exact this))
        clear hb9 HR8 KC
        go_wp2_with fail
        refine HEQ.out.mono ?_
        rintro e w10 ⟨rfl, rfl⟩
        go_wp2_with fail
        refine (works9_any _).mono ?_
        rintro e w' ⟨rfl, hb⟩
        go_wp2_with fail
        go_ret
        exact ⟨rfl, (KD.out.next hb).b⟩
      · rw [if_neg hgt] at ho7 hq7 ⊢
        obtain ⟨B7, d7, ps7, e7v, e7, _, _, _⟩ := ho7.form
        obtain ⟨C7, f7, qs7, e8v, e8, _, _, _⟩ := hq7.form
        have e70 : ps7.length = 0 := by have := congrArg List.length e7; simpa using this
        have e80 : qs7.length = 0 := by have := congrArg List.length e8; simpa using this
        rw [e70] at e7v
        rw [e80] at e8v
        subst e7v e8v
        clear e7 e8 ho7 hq7 e70 e80
        generalize gtE be 0 = E at *
        go_wp2_with fail
        refine (works9_any _).mono ?_
        rintro e w' ⟨rfl, hb⟩
        go_wp2_with fail
        go_ret
        exact ⟨rfl, (KB.out.next hb).b⟩
    | false =>
      rw [hrt] at HR
      have q1 : ptE9 (ps.map Pp.d) (qs.map Pq.d) = 1 := if_neg (by rw [hrt]; decide)
      have q2 : ptB9 ah (ps.map Pp.d) (qs.map Pq.d) = [] := if_neg (by rw [hrt]; decide)
      rw [q2] at HOZ
      rw [q1]
      obtain ⟨B3, n3, d3, rfl, hn3, _, _, _⟩ := HOZ.out.formN
      obtain rfl : 0 = n3 := hn3.out
      clear q1 q2 hrt HOZ hn3
      go_wp2_with fail
      refine HR.out.mono ?_
      rintro e wa ⟨rfl, hb4⟩
      have KA := Lib.hid (KZ.out.next hb4)
      clear hb4 t0 t1 KZ HR
      go_wp2_with fail
      refine (get9_any A3 c3 be 0 wa hcb (by omega) KA.out.e).mono ?_
      rintro e wb ⟨v7, u7, rfl, ho7, hq7, hb7⟩
      have KB := Lib.hid (KA.out.next hb7)
      clear hb7 KA
      by_cases hgt : gtE be 0 = 0
      · obtain ⟨hr, hsp, n, hn, hn2, hsd⟩ := got_has0 hgt
        rw [if_pos hgt] at ho7 hq7 ⊢
        rw [hgt, hn]
        obtain ⟨B7, d7, ps7, rfl, e7, _, _, hL7⟩ := ho7.form
        obtain ⟨C7, f7, qs7, rfl, e8, _, _, hQ7⟩ := hq7.form
        have HS7 := Lib.hid (got_sm be _ _ ps7 qs7 e7 e8)
        have HX7 := Lib.hid (RngD.p e7 hsp)
        have hle := hsd.le
        have h2 : 2 ≤ n := by rw [hn2]; exact own9_two
        have htk : be.take n = own9 (gtL be 0).1 (gtQ be 0).1 := by rw [hn2]; exact sd_take0 hsd
        have HP8 := Lib.hid (put9_any none B7 C7 0 d7 f7 [] ps7 qs7 wb (fun _ => rfl) (Lies.empty _ _ _) (by simp) hL7 hQ7 ⟨HS7.out, HX7.out⟩)
        unfold PutR9 at HP8
        rw [e7, e8, show ptE9 (gtL be 0).1 (gtQ be 0).1 = 0 from if_pos hr, show ptB9 [] (gtL be 0).1 (gtQ be 0).1 = [] ++ own9 (gtL be 0).1 (gtQ be 0).1 from if_pos hr, List.nil_append] at HP8
        obtain ⟨m, hm⟩ : ∃ m, own9 (gtL be 0).1 (gtQ be 0).1 = m := ⟨_, rfl⟩
        rw [hm] at HP8 htk
        have HR7 := Lib.hid (fun w' (hb : Below wb.heap.size wb w') => right9_any B7 C7 d7 f7 ps7 qs7 w' HS7.out (hL7.next hb) (hQ7.next hb))
        unfold BoolR at HR7
        rw [e7, e8, hr] at HR7
        have hnb : n ≤ be.length := by omega
        have hni : (n : Int) ≤ (be.length : Int) := by omega
        have hn2i : (2 : Int) ≤ (n : Int) := by omega
        have hnc : n ≤ c3 := by omega
        have HON := Lib.hid (show m.length = n by rw [← htk, List.length_take]; omega)
        have HTK := Lib.hid htk
        obtain ⟨g7, o7, hA3, _, _⟩ := KB.out.e (by omega)
        clear hr hsp hn hn2 hsd ho7 hq7 e7 e8 hL7 hQ7 htk hle hgt hm
        subst hA3
        go_wp2_with fail
        refine HP8.out.mono ?_
        rintro e wc ⟨t8, rfl, ho8, hb8⟩
        obtain ⟨B8, n8, d8, rfl, hn8, _, _, hL8⟩ := ho8.formN
        have HLc := Lib.hid hL8
        have KC := Lib.hid (KB.out.next hb8)
        have HR8 := Lib.hid (HR7.out wc hb8)
        clear ho8 hL8 hb8 HP8 HR7 KB
        go_wp2_with fail
        refine HR8.out.mono ?_
        rintro e wd_ ⟨rfl, hb9⟩
        have KD := Lib.hid (KC.out.next hb9)
        have HEQ := Lib.hid (eqB7_n B8 (some ⟨g7, o7, none⟩) d8 c3 _ _ n8 n m wd_ hn8.out HON.out (by rw [← hn8.out, HON.out]; omega) (HLc.out.below hb9) (by have := KD.out.e.take7 n; rw [HTK.out] at this; exact this))
        clear hb9 HR8 KC
        go_wp2_with fail
        refine HEQ.out.mono ?_
        rintro e w10 ⟨rfl, rfl⟩
        go_wp2_with fail
        refine (works9_any _).mono ?_
        rintro e w' ⟨rfl, hb⟩
        go_wp2_with fail
        go_ret
        exact ⟨rfl, (KD.out.next hb).b⟩
      · rw [if_neg hgt] at ho7 hq7 ⊢
        obtain ⟨B7, d7, ps7, e7v, e7, _, _, _⟩ := ho7.form
        obtain ⟨C7, f7, qs7, e8v, e8, _, _, _⟩ := hq7.form
        have e70 : ps7.length = 0 := by have := congrArg List.length e7; simpa using this
        have e80 : qs7.length = 0 := by have := congrArg List.length e8; simpa using this
        rw [e70] at e7v
        rw [e80] at e8v
        subst e7v e8v
        clear e7 e8 ho7 hq7 e70 e80
        generalize gtE be 0 = E at *
        go_wp2_with fail
        refine (works9_any _).mono ?_
        rintro e w' ⟨rfl, hb⟩
        go_wp2_with fail
        go_ret
        exact ⟨rfl, (KB.out.next hb).b⟩
end Go.Proofs.YtjagjkogloggpaaGreat
