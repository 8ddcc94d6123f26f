/-
  Contracts of unwind.get and unwind.saved.
-/
import Derived.Test.YtpbopehhalicjaaU8E
namespace Go.Proofs.Ytpbopehhalicjaa
open Go Go.RowKit

def GetsR (o : Option (List Nat × Nat)) (w : World) (e : Ending) (w' : World) : Prop :=
  Below w.heap.size w w' ∧ match o with
    | none => e = .returned (.tuple #[.slice none 0 0, .int .i64 0, .bool false])
    | some (l, n) => ∃ A c, e = .returned (.tuple #[.slice A l.length c, .int .i64 n, .bool true]) ∧ NRow w' w.heap.size (.slice A l.length c) (nI l)
def AtNums (b : List UInt8) (Ms : List Nat) (k j kk : Nat) (ls : List Nat) : Prop := nums8 b Ms k = (nums8 b (Ms.drop j) kk).map fun r => (ls ++ r.1, r.2)
theorem atNums_start (b : List UInt8) (Ms : List Nat) (k : Nat) : AtNums b Ms k 0 k [] := by
  unfold AtNums
  cases h : nums8 b Ms k with
  | none => simp [h]
  | some r => simp [h]
theorem AtNums.step {b : List UInt8} {Ms : List Nat} {k j kk x n : Nat} {ls : List Nat} (h : AtNums b Ms k j kk ls) (hj : j < Ms.length) (hr : num8 Ms[j] b kk = some (x, n)) : AtNums b Ms k (j + 1) n (ls ++ [x]) := by
  unfold AtNums at h ⊢
  rw [h, List.drop_eq_getElem_cons hj, nums8, hr]
  simp only [Option.bind_some, Option.map_map]
  congr 1
  funext r
  simp
theorem AtNums.stop {b : List UInt8} {Ms : List Nat} {k j kk : Nat} {ls : List Nat} (h : AtNums b Ms k j kk ls) (hj : j < Ms.length) (hr : num8 Ms[j] b kk = none) : nums8 b Ms k = none := by
  unfold AtNums at h
  rw [h, List.drop_eq_getElem_cons hj, nums8, hr]
  rfl
theorem AtNums.last {b : List UInt8} {Ms : List Nat} {k kk : Nat} {ls : List Nat} (h : AtNums b Ms k Ms.length kk ls) : nums8 b Ms k = some (ls, kk) := by
  unfold AtNums at h
  rw [h, List.drop_length, nums8]
  simp

set_option maxRecDepth 100000 in
set_option maxHeartbeats 2000000 in
theorem get8_any (A : Option Addr) (c : Nat) (b : List UInt8) (k : Nat) (AM : Option Addr) (cM : Nat) (Ms : List Nat) (w : World) (hk : k ≤ b.length) (hn : b.length ≤ 1099511627776) (hl : Ms.length ≤ 1000) (hM : ∀ M ∈ Ms, M ≤ 16777216) (h : Lies w w.heap.size A b) (hm : ULies w w.heap.size AM Ms) :
    Calls Try.prog 29 #[.slice A b.length c, .int .i64 k, .slice AM Ms.length cM] w (GetsR (nums8 b Ms k) w) := by
  have HL := Lib.hid h
  have HMM := Lib.hid hM
  clear h hM
  go_enter Try.func29, Try.ntmps29
  go_wp2
  go_loopw [1, 6, 16] (fun a v i wr => ∃ (j kk : Nat) (ls : List Nat), j ≤ Ms.length ∧ i = .int .i64 j ∧ a = .int .i64 kk ∧ kk ≤ b.length ∧ Hid (AtNums b Ms k j kk ls) ∧ Hid (NRow wr w.heap.size v (nI ls)) ∧ Hid (ls.length = j) ∧ Hid (Below w.heap.size w wr)) (fun _ _ i _ => Ms.length - (intOf i).toNat)
  case atStart => exact ⟨0, k, [], by omega, rfl, rfl, hk, atNums_start _ _ _, NRow.nil _ _, rfl, Below.refl _ _⟩
  case round =>
    obtain ⟨j, kk, ls, hj, rfl, rfl, hkk, hR, hO, hll, hB⟩ := hrel
    by_cases hlt : j < Ms.length
    · obtain ⟨g, o, rfl, hg, c1⟩ := (hm.below hB.out).at_ hlt
      have hMj := HMM.out _ (List.getElem_mem hlt)
      have hz := hB.out.size
      have HLI := Lib.hid ((HL.out.below hB.out).more hz)
      have HST := Lib.hid (fun x n => hR.out.step (x := x) (n := n) hlt)
      have HSO := Lib.hid (hR.out.stop hlt)
      have HLT := Lib.hid hlt
      have HC := u8_cases Ms[j] A c b kk hkk hn
      have hji : (j : Int) < Ms.length := by omega
      clear hR
      generalize Ms[j] = M at *
      rcases HC with ⟨x, n, hx, h1, h2, h3, hU⟩ | ⟨hx, hU⟩
      · have HU := Lib.hid hU
        have HS := Lib.hid (HST.out x n hx)
        have hxi : (x : Int) ≤ M := by omega
        clear hU HST HSO hx
        go_wp2_with fail
        refine (HU.out wr HLI.out).mono ?_
        rintro e w1 ⟨rfl, rfl⟩
        have HV := Lib.hid (hO.out.below (below_lnew wr (.cells #[.int .i64 (x : Int)] 3)))
        have hll' : ls.length ≤ 1000 := by have := hll.out; omega
        go_wp2_with (at_builtin
                     refine app_n7 _ rfl (.tmp 34) (.tmp 37) rfl w.heap.size _ (nI ls) rfl HV.out (some ⟨wr.heap.size, 0, none⟩) 1 _ [(x : Int)] rfl (by simp) (nlies_one wr x) (by rw [nI_len]; simp; omega) (by simp; omega) ?_
                     intro v4 w4 ho4 hg4
                     have hB4 := Lib.hid (below_nrow (hB.out.trans ((below_lnew wr _).mono hz)) hg4 HV.out (by simp; omega)))
        go_roundw
        case rel => exact ⟨j + 1, n, ls ++ [x], by omega, by go_num, rfl, h2, HS, by rw [nI_snoc]; exact ho4, by rw [List.length_append, hll.out]; rfl, hB4⟩
        case measure => simp [intOf]; omega
      · have HS := Lib.hid (HSO.out hx)
        clear HST HSO hx
        rcases hU with ⟨X, N, hU⟩ | ⟨X, N, hX1, hX2, hU⟩
        · have HU := Lib.hid hU
          clear hU
          go_wp2_with fail
          refine (HU.out wr HLI.out).mono ?_
          rintro e w1 ⟨rfl, rfl⟩
          go_wp2_with fail
          go_ret3
          unfold GetsR; rw [HS.out]
          exact ⟨hB.out, rfl⟩
        · have HU := Lib.hid hU
          clear hU
          go_wp2_with fail
          refine (HU.out wr HLI.out).mono ?_
          rintro e w1 ⟨rfl, rfl⟩
          go_wp2_with fail
          go_ret3
          unfold GetsR; rw [HS.out]
          exact ⟨hB.out, rfl⟩
    · have hjl : j = Ms.length := by omega
      have HS := Lib.hid (show nums8 b Ms k = some (ls, kk) from by have := hR.out; rw [hjl] at this; exact this.last)
      obtain ⟨A2, c2, rfl, _, _, _⟩ := hO.out.form
      have hji : (Ms.length : Int) ≤ j := by omega
      clear hjl hR
      go_wp2_with fail
      go_ret3
      unfold GetsR; rw [HS.out]
      refine ⟨hB.out, A2, c2, ?_, ?_⟩
      · first | rfl | (rw [nI_len]; rfl)
      · have := hO.out
        rw [nI_len] at this
        exact this

def OneR (o : Option (Nat × Nat)) (w : World) (e : Ending) (w' : World) : Prop :=
  Below w.heap.size w w' ∧ ((o = none ∧ e = .returned (.tuple #[.slice none 0 0, .int .i64 0, .bool false])) ∨
    ∃ x n g p c, o = some (x, n) ∧ e = .returned (.tuple #[.slice (some ⟨g, p, none⟩) 1 c, .int .i64 (n : Nat), .bool true]) ∧ 1 ≤ c ∧ g < w'.heap.size ∧ w'.cell? ⟨g, p, none⟩ = some (.int .i64 (x : Nat)) ∧ w.heap.size ≤ g)
theorem nums8_one {b : List UInt8} {M k : Nat} : nums8 b [M] k = (num8 M b k).map fun g => ([g.1], g.2) := by
  simp only [nums8]
  cases num8 M b k <;> rfl
theorem get8_one (A : Option Addr) (c : Nat) (b : List UInt8) (k : Nat) (i : Int) (g cM M : Nat) (w : World) (hi : i = k) (hk : k ≤ b.length) (hn : b.length ≤ 1099511627776) (hM : M ≤ 16777216) (h : Lies w w.heap.size A b) (hm : ULies w w.heap.size (some ⟨g, 0, none⟩) [M]) :
    Calls Try.prog 29 #[.slice A b.length c, .int .i64 i, .slice (some ⟨g, 0, none⟩) 1 cM] w (OneR (num8 M b k) w) := by
  subst hi
  have := get8_any A c b k (some ⟨g, 0, none⟩) cM [M] w hk hn (by simp) (by simp [hM]) h hm
  rw [nums8_one] at this
  refine Calls.mono this ?_
  rintro e w' ⟨hb, h2⟩
  refine ⟨hb, ?_⟩
  cases hx : num8 M b k with
  | none => rw [hx] at h2; exact .inl ⟨rfl, h2⟩
  | some q =>
    obtain ⟨x, n⟩ := q
    rw [hx] at h2
    obtain ⟨A5, c5, e5, ho⟩ := h2
    obtain ⟨A6, c6, e6, h51, h52, h53⟩ := ho.form
    injection e6 with q1 q2 q3
    subst q1; subst q3
    obtain ⟨g6, o6, rfl, hg6, cn⟩ := h53.at_ (j := 0) (by simp [nI])
    exact .inr ⟨x, n, g6, o6, c5, rfl, e5, by simpa [nI] using h51, hg6, by simpa [nI] using cn, (ho.lt g6 rfl).1⟩
def FourR (o : Option (List Nat × Nat)) (w : World) (e : Ending) (w' : World) : Prop :=
  Below w.heap.size w w' ∧ ((o = none ∧ e = .returned (.tuple #[.slice none 0 0, .int .i64 0, .bool false])) ∨
    ∃ x0 x1 x2 x3 n g p c, o = some ([x0, x1, x2, x3], n) ∧ e = .returned (.tuple #[.slice (some ⟨g, p, none⟩) 4 c, .int .i64 (n : Nat), .bool true]) ∧ 4 ≤ c ∧ g < w'.heap.size ∧ w'.cell? ⟨g, p, none⟩ = some (.int .i64 (x0 : Nat)) ∧
      w'.cell? ⟨g, p + 1, none⟩ = some (.int .i64 (x1 : Nat)) ∧ w'.cell? ⟨g, p + 2, none⟩ = some (.int .i64 (x2 : Nat)) ∧ w'.cell? ⟨g, p + 3, none⟩ = some (.int .i64 (x3 : Nat)) ∧ w.heap.size ≤ g)
theorem nums8_four {b : List UInt8} {M0 M1 M2 M3 k : Nat} : nums8 b [M0, M1, M2, M3] k = (num8 M0 b k).bind fun g0 => (num8 M1 b g0.2).bind fun g1 => (num8 M2 b g1.2).bind fun g2 => (num8 M3 b g2.2).map fun g3 => ([g0.1, g1.1, g2.1, g3.1], g3.2) := by
  simp only [nums8]
  cases num8 M0 b k with
  | none => rfl
  | some g0 =>
    simp only [Option.bind_some]
    cases num8 M1 b g0.2 with
    | none => rfl
    | some g1 =>
      simp only [Option.bind_some]
      cases num8 M2 b g1.2 with
      | none => rfl
      | some g2 =>
        simp only [Option.bind_some]
        cases num8 M3 b g2.2 <;> rfl
theorem get8_four (A : Option Addr) (c : Nat) (b : List UInt8) (k : Nat) (g cM M0 M1 M2 M3 : Nat) (w : World) (hk : k ≤ b.length) (hn : b.length ≤ 1099511627776) (hM : M0 ≤ 16777216 ∧ M1 ≤ 16777216 ∧ M2 ≤ 16777216 ∧ M3 ≤ 16777216) (h : Lies w w.heap.size A b) (hm : ULies w w.heap.size (some ⟨g, 0, none⟩) [M0, M1, M2, M3]) :
    Calls Try.prog 29 #[.slice A b.length c, .int .i64 k, .slice (some ⟨g, 0, none⟩) 4 cM] w (FourR (nums8 b [M0, M1, M2, M3] k) w) := by
  refine Calls.mono (get8_any A c b k (some ⟨g, 0, none⟩) cM [M0, M1, M2, M3] w hk hn (by simp) (by simp; omega) h hm) ?_
  rintro e w' ⟨hb, h2⟩
  refine ⟨hb, ?_⟩
  cases hx : nums8 b [M0, M1, M2, M3] k with
  | none => rw [hx] at h2; exact .inl ⟨rfl, h2⟩
  | some q =>
    obtain ⟨l, n⟩ := q
    rw [hx] at h2
    obtain ⟨A5, c5, e5, ho⟩ := h2
    have hl : ∃ x0 x1 x2 x3, l = [x0, x1, x2, x3] := by
      rw [nums8_four] at hx
      obtain ⟨g0, _, hx⟩ := obind hx
      obtain ⟨g1, _, hx⟩ := obind hx
      obtain ⟨g2, _, hx⟩ := obind hx
      obtain ⟨g3, _, hx⟩ := omap hx
      simp only [Prod.mk.injEq] at hx
      exact ⟨_, _, _, _, hx.1.symm⟩
    obtain ⟨x0, x1, x2, x3, rfl⟩ := hl
    obtain ⟨A6, c6, e6, h51, h52, h53⟩ := ho.form
    injection e6 with q1 q2 q3
    subst q1; subst q3
    obtain ⟨g6, o6, rfl, hg6, cn⟩ := h53 (by simp [nI])
    exact .inr ⟨x0, x1, x2, x3, n, g6, o6, c5, rfl, e5, by simpa [nI] using h51, hg6, by simpa [nI] using cn 0 (by simp [nI]), by simpa [nI] using cn 1 (by simp [nI]), by simpa [nI] using cn 2 (by simp [nI]), by simpa [nI] using cn 3 (by simp [nI]), (ho.lt g6 rfl).1⟩

def SavedR (o : Option (Lc × Nat)) (w : World) (e : Ending) (w' : World) : Prop :=
  Below w.heap.size w w' ∧ match o with
    | none => e = .returned (.tuple #[.agg #[.int .i64 0, .int .i64 0], .int .i64 0, .bool false])
    | some (x, n) => e = .returned (.tuple #[.agg #[.int .i64 x.k, .int .i64 x.n], .int .i64 n, .bool true])
theorem locAt_res {fn : Func} {p u v : Tmp} (h : fn.results = #[.cell p 31, .tmp u, .tmp v]) (tmps : Array Value) (w : World) (g : Nat) (r : Lc) (hp : tmps.getD p undef = .pointer (some ⟨g, 0, none⟩)) (hs : LocAt w g r) :
    (results fn tmps).run Try.prog w = .ok (.tuple #[.agg (cK r), tmps.getD u undef, tmps.getD v undef]) w := res_row_tmp2 h tmps w g 31 (cK r) (0, 0) _ hp hs Try.underlying31 rfl (by kernel_rfl)
theorem LocAt.frozen {w : World} {g : Nat} {r : Lc} (h : LocAt w g r) (j : Nat) : w.frozen? ⟨g, j, none⟩ = false := by
  unfold LocAt at h
  simp [World.frozen?, h]
theorem LocAt.setAll {w : World} {g : Nat} {r : Lc} (h : LocAt w g r) (p : Lc) : LocAt ((w.setCell ⟨g, 0, none⟩ (.int .i64 p.k)).setCell ⟨g, 1, none⟩ (.int .i64 p.n)) g p := by
  unfold LocAt at h ⊢
  simp only [World.setCell, Array.getElem?_modify, h]
  simp [cK]
theorem rdW_none (s : Bool) {b : List UInt8} {k : Nat} (h : b.length ≤ k) : rdW s b k = none := dif_neg (by omega)
theorem rdW_some (s : Bool) {b : List UInt8} {k : Nat} (h : k < b.length) : rdW s b k = (num8 (bU s) b (k + 1)).map fun g => (⟨b[k].toNat, -(g.1 : Int)⟩, g.2) := dif_pos h

set_option maxRecDepth 100000 in
set_option maxHeartbeats 2000000 in
theorem saved8_any (A : Option Addr) (c : Nat) (b : List UInt8) (k : Nat) (w : World) (hn : b.length ≤ 1099511627776) (hk : k ≤ b.length) (h : Lies w w.heap.size A b) :
    Calls Try.prog 30 #[.slice A b.length c, .int .i64 k] w (SavedR (rdW true b k) w) := by
  have hb0 := below_lnew w (.cells #[.int .i64 0, .int .i64 0] 31)
  have HX := Lib.hid (locAt_new w ⟨0, 0⟩)
  unfold cK at HX
  dsimp only at HX
  have HB := Lib.hid hb0
  have hf0 := HX.out.frozen
  have hc0 := HX.out.kd
  have hc1 := HX.out.nm
  dsimp only at hc0 hc1
  by_cases hlt : k < b.length
  · obtain ⟨g, o, rfl, hg, c0⟩ := h.at_ hlt
    have hU := ulies_one (w.alloc (.cells #[.int .i64 0, .int .i64 0] 31)) 65536 65536 rfl
    have hb1 := below_lnew (w.alloc (.cells #[.int .i64 0, .int .i64 0] 31)) (.cells #[.int .u64 65536] 58)
    have HGET := Lib.hid (get8_one (some ⟨g, o, none⟩) c b (k + 1) ((k : Int) + 1) (w.heap.size + 1) 1 65536 _ (by omega) (by omega) hn (by omega) (((h.below hb0).more hb0.size).below hb1 |>.more hb1.size) (by have := hU; simpa only [World.size_alloc] using this))
    have HRS := Lib.hid (rdW_some true hlt)
    have hb2 := hb0.trans (hb1.mono hb0.size)
    have HB2 := Lib.hid hb2
    have hX2 := HX.out.below hb1 (by simp)
    have hki : (k : Int) < b.length := by omega
    have hb8 := u8_lt b[k]
    clear h hU hb0 hb1 hb2
    rw [show (bU true) = 65536 from rfl] at HRS
    unfold OneR at HGET
    cases hnum : num8 65536 b (k + 1) with
    | none =>
      rw [hnum] at HGET HRS
      clear hnum
      go_enter Try.func30, Try.ntmps30
      go_wp2_with fail
      refine HGET.out.mono ?_
      rintro e w3 ⟨hb3, ⟨_, rfl⟩ | ⟨_, _, _, _, _, hno, _⟩⟩
      rotate_left
      · cases hno
      have hX3 := hX2.below hb3 (by simp; omega)
      have HB3 := Lib.hid (HB2.out.trans (hb3.mono HB2.out.size))
      have d0 := hX3.frozen
      have d1 := hX3.kd
      have d2 := hX3.nm
      dsimp only at d1 d2
      clear hb3
      go_wp2_with fail
      refine bodyPost_ret (locAt_res rfl _ _ w.heap.size ⟨0, 0⟩ rfl (hX3.setAll ⟨0, 0⟩)) rfl ?_
      unfold SavedR; rw [HRS.out]
      exact ⟨(HB3.out.setCell (p := ⟨w.heap.size, 0, none⟩) (Nat.le_refl _) _).setCell (p := ⟨w.heap.size, 1, none⟩) (Nat.le_refl _) _, rfl⟩
    | some q =>
      obtain ⟨x, n⟩ := q
      rw [hnum] at HGET HRS
      have hx := (num8_has hnum).2.2.2.2.2.1
      clear hnum
      go_enter Try.func30, Try.ntmps30
      go_wp2_with fail
      refine HGET.out.mono ?_
      rintro e w3 ⟨hb3, ⟨hno, _⟩ | ⟨x', n', g6, o6, c4, hxn, rfl, h51, hg6, cn⟩⟩
      · cases hno
      simp only [Option.some.injEq, Prod.mk.injEq] at hxn
      obtain ⟨rfl, rfl⟩ := hxn
      have hX3 := hX2.below hb3 (by simp; omega)
      have HB3 := Lib.hid (HB2.out.trans (hb3.mono HB2.out.size))
      have d0 := hX3.frozen
      have d1 := hX3.kd
      have d2 := hX3.nm
      have hzz := HB3.out.size
      have cb := (HB3.out.cell (p := ⟨g, o + k, none⟩) hg).trans c0
      dsimp only at d1 d2
      clear hb3
      go_wp2_with fail
      go_region
      go_wp2_with fail
      refine bodyPost_ret (locAt_res rfl _ _ w.heap.size ⟨b[k].toNat, -(x : Int)⟩ rfl (hX3.setAll ⟨b[k].toNat, -(x : Int)⟩)) rfl ?_
      unfold SavedR; rw [HRS.out]
      exact ⟨((HB3.out.setCell (p := ⟨w.heap.size, 0, none⟩) (Nat.le_refl _) _).setCell (p := ⟨w.heap.size, 1, none⟩) (Nat.le_refl _) _).drew, rfl⟩
  · have HRS := Lib.hid (rdW_none true (b := b) (k := k) (by omega))
    have hki : (b.length : Int) ≤ k := by omega
    clear h hb0
    go_enter Try.func30, Try.ntmps30
    go_wp2_with fail
    generalize w.alloc (.cells #[.int .i64 0, .int .i64 0] 31) = W at *
    go_wp2_with fail
    refine bodyPost_ret (locAt_res rfl _ _ w.heap.size ⟨0, 0⟩ rfl HX.out) rfl ?_
    unfold SavedR; rw [HRS.out]
    exact ⟨HB.out, rfl⟩
end Go.Proofs.Ytpbopehhalicjaa
