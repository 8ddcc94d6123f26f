/-
  The walk of LebBack.
-/
import Derived.Test.YtdnjlaoapopcfaaL2W
import Derived.Test.YtdnjlaoapopcfaaR0A
namespace Go.Proofs.Ytdnjlaoapopcfaa
open Go.RowKit

theorem rd_put {b : Bool} {x : Int} (hr : rng b x) (l t : List UInt8) : rdE b (l ++ nB b x ++ t) l.length = 0 ∧ rdX b (l ++ nB b x ++ t) l.length = x ∧ rdN b (l ++ nB b x ++ t) l.length = (l.length : Int) + size b x := by
  have hd : (l ++ nB b x ++ t).drop l.length = nB b x ++ t := by rw [List.append_assoc, List.drop_left]
  have hg := good_put hr (r := nB b x ++ t) (List.prefix_append _ _)
  have h := rd_ok (b := b) (l := l ++ nB b x ++ t) (k := l.length) (by simp) (by rw [hd]; exact hg.1)
  rw [hd, hg.2.1, hg.2.2] at h
  exact h
theorem rd_cut {b : Bool} {x : Int} (l : List UInt8) {k : Nat} (h1 : l.length ≤ k) (h2 : k < l.length + size b x) : rdE b ((l ++ nB b x).take k) l.length = 5 := by
  have hlen : ((l ++ nB b x).take k).length = k := by rw [List.length_take, List.length_append, nB_len]; omega
  have hd : ((l ++ nB b x).take k).drop l.length = (nB b x).take (k - l.length) := by rw [List.drop_take, List.drop_left]
  refine (rd_form (by rw [hlen]; exact h1) fun hg => ?_).1
  rw [hd] at hg
  exact hg.1 (lg_cut (b := b) (x := x) (by omega))
theorem Lies.take {w : World} {B : Nat} {A : Option Addr} {l : List UInt8} (h : Lies w B A l) (k : Nat) : Lies w B A (l.take k) := fun hl => by
  have hl' : 0 < l.length := by simp at hl; omega
  obtain ⟨g, o, e, hg, hc⟩ := h hl'
  refine ⟨g, o, e, hg, fun j hj => ?_⟩
  have hj' : j < l.length := by simp at hj; omega
  rw [hc j hj']; simp
theorem cutU {w : World} {B : Nat} {A : Option Addr} {l : List UInt8} {x : Int} (c k : Nat) (h : Lies w B A (l ++ nB false x)) (hn : l.length ≤ 1024) (h1 : l.length ≤ k) (h2 : k < l.length + size false x) :
    Calls Try.prog 17 #[.slice A k c, .int .i64 l.length] w fun e w' => (∃ p q, e = .returned (.tuple #[.int .u64 p, .int .i64 q, .int .i64 5])) ∧ w = w' := by
  have hs := size_le false x
  have hlen : ((l ++ nB false x).take k).length = k := by rw [List.length_take, List.length_append, nB_len]; omega
  have := U_any A c ((l ++ nB false x).take k) l.length w B (by omega) (h.take k)
  rw [hlen, rd_cut l h1 h2] at this
  exact this.mono fun e w' he => ⟨⟨_, _, he.1⟩, he.2⟩
theorem cutS {w : World} {B : Nat} {A : Option Addr} {l : List UInt8} {x : Int} (c k : Nat) (h : Lies w B A (l ++ nB true x)) (hn : l.length ≤ 1024) (h1 : l.length ≤ k) (h2 : k < l.length + size true x) :
    Calls Try.prog 19 #[.slice A k c, .int .i64 l.length] w fun e w' => (∃ p q, e = .returned (.tuple #[.int .i64 p, .int .i64 q, .int .i64 5])) ∧ w = w' := by
  have hs := size_le true x
  have hlen : ((l ++ nB true x).take k).length = k := by rw [List.length_take, List.length_append, nB_len]; omega
  have := S_any A c ((l ++ nB true x).take k) l.length w B (by omega) (h.take k)
  rw [hlen, rd_cut l h1 h2] at this
  exact this.mono fun e w' he => ⟨⟨_, _, he.1⟩, he.2⟩
theorem putU_read {w : World} {B : Nat} {A : Option Addr} {x : Int} (l t : List UInt8) (c n : Nat) (h : Lies w B A (l ++ nB false x ++ t)) (hn : l.length ≤ 1024) (ht : t.length ≤ 1024) (h0 : 0 ≤ x) (h1 : x < 18446744073709551616) (he : (l ++ nB false x ++ t).length = n) :
    Calls Try.prog 17 #[.slice A n c, .int .i64 l.length] w fun e w' => e = .returned (.tuple #[.int .u64 x, .int .i64 ((l.length : Int) + size false x), .int .i64 0]) ∧ w = w' := by
  have hs := size_le false x
  have hl := nB_len false x
  have hr : rng false x := ⟨h0, h1⟩
  have := U_any A c (l ++ nB false x ++ t) l.length w B (by rw [List.length_append, List.length_append]; omega) h
  rw [(rd_put hr l t).1, (rd_put hr l t).2.1, (rd_put hr l t).2.2, he] at this
  exact this
theorem putS_read {w : World} {B : Nat} {A : Option Addr} {x : Int} (l t : List UInt8) (c n : Nat) (h : Lies w B A (l ++ nB true x ++ t)) (hn : l.length ≤ 1024) (ht : t.length ≤ 1024) (h0 : -9223372036854775808 ≤ x) (h1 : x < 9223372036854775808) (he : (l ++ nB true x ++ t).length = n) :
    Calls Try.prog 19 #[.slice A n c, .int .i64 l.length] w fun e w' => e = .returned (.tuple #[.int .i64 x, .int .i64 ((l.length : Int) + size true x), .int .i64 0]) ∧ w = w' := by
  have hs := size_le true x
  have hl := nB_len true x
  have hr : rng true x := ⟨h0, h1⟩
  have := S_any A c (l ++ nB true x ++ t) l.length w B (by rw [List.length_append, List.length_append]; omega) h
  rw [(rd_put hr l t).1, (rd_put hr l t).2.1, (rd_put hr l t).2.2, he] at this
  exact this

theorem wk64b (x : Int) : -9223372036854775808 ≤ wrap64 x ∧ wrap64 x < 9223372036854775808 := by unfold wrap64; omega

set_option maxRecDepth 100000 in
set_option maxHeartbeats 2000000 in
theorem lebBack_any (A A2 : Option Addr) (c c2 : Nat) (l t : List UInt8) (x : Int) (w : World) (hc : A = none → c = 0) (h : Lies w w.heap.size A l) (hc2 : A2 = none → c2 = 0) (h2 : Lies w w.heap.size A2 t) (h0 : 0 ≤ x) (h1 : x < 18446744073709551616) :
    Calls Try.prog 5 #[.slice A l.length c, .int .u64 x, .slice A2 t.length c2] w (Yes w) := by
  by_cases hbig : 1024 < l.length
  · go_enter Try.func5, Try.ntmps5
    go_wp2_with fail
    refine (works_any _).mono ?_
    rintro e w' ⟨rfl, hb⟩
    go_wp2
    go_ret
    exact ⟨rfl, hb⟩
  by_cases hbig2 : 1024 < t.length
  · go_enter Try.func5, Try.ntmps5
    go_wp2_with fail
    refine (works_any _).mono ?_
    rintro e w' ⟨rfl, hb⟩
    go_wp2
    go_ret
    exact ⟨rfl, hb⟩
  · have HC := Lib.hid hc
    have HC2 := Lib.hid hc2
    clear hc hc2
    have hy := wk64b x
    have hs1 := size_pos false x
    have hs2 := size_le false x
    have hs3 := size_pos true (wrap64 x)
    have hs4 := size_le true (wrap64 x)
    have hlu : (l ++ nB false x).length = l.length + size false x := by rw [List.length_append, nB_len]
    have hls : (l ++ nB true (wrap64 x)).length = l.length + size true (wrap64 x) := by rw [List.length_append, nB_len]
    have HLU := Lib.hid hlu
    have HLS := Lib.hid hls
    clear hlu hls
    go_enter Try.func5, Try.ntmps5
    go_wp2_with fail
    refine (putU_any A c l x _ HC.out h (by omega) h0 h1).mono ?_
    rintro e w1 ⟨u, rfl, hu1, hb1, hcu⟩
    have hl1 := (h.below hb1).more hb1.size
    have ht1 := (h2.below hb1).more hb1.size
    clear hcu
    go_wp2_with fail
    refine (putS_any A c l (wrap64 x) _ HC.out hl1 (by omega) hy.1 hy.2).mono ?_
    rintro e w2 ⟨s, rfl, hs2', hb2, hcs⟩
    have ht2 := (ht1.below hb2).more hb2.size
    have hu2 := hu1.below hb2
    have hB2 := hb1.trans (hb2.mono hb1.size)
    clear hcs hb1 hb2 hl1 ht1 hu1
    obtain ⟨Au, cu, rfl, hlu, hAu, hLu⟩ := hu2.form
    obtain ⟨As, cs, rfl, hls, hAs, hLs⟩ := hs2'.form
    rw [HLU.out, HLS.out]
    rw [HLU.out] at hlu
    rw [HLS.out] at hls
    go_wp2_with fail
    have hcb1 := copyBytes_any Au cu (l ++ nB false x) w2 (by rw [HLU.out]; omega) hLu
    rw [HLU.out] at hcb1
    refine hcb1.mono ?_
    rintro e w3 ⟨v1, rfl, ho3, hb3⟩
    clear hcb1
    have ht3 := ht2.below hb3
    have hu3 := hLu.below hb3
    have hs3b := hLs.below hb3
    have g23 := hb3.size
    have HB2 := Lib.hid hB2
    clear hLu hLs ht2 hB2 hu2 hs2'
    go_wp2_with (at_builtin
                 refine app_slice _ rfl (.tmp 54) (.tmp 55) rfl w2.heap.size v1 (l ++ nB false x) rfl ho3 A2 c2 w2.heap.size t rfl HC2.out ht3 (by rw [HLU.out]; omega) (by omega) ?_
                 intro v2 w4 ho4 hg4
                 have hb4 : Below w2.heap.size w3 w4 := (Below.refl _ _).grown hg4 (by omega) (fun k hk => (ho3.lt k hk).1)
                 obtain ⟨A4, n4, c4, rfl, hn4, _, _, hL4⟩ := ho4.formN)
    refine (putU_read l t c4 _ hL4 (by omega) (by omega) h0 h1 hn4.out).mono ?_
    rintro e w' ⟨rfl, rfl⟩
    have ht4 := ht3.below hb4
    have hu4 := hu3.below hb4
    have hs4b := hs3b.below hb4
    have g34 := hb4.size
    have HB4 := Lib.hid (hb3.trans hb4)
    clear ht3 hu3 hs3b hb3 hb4 ho3 hg4 hL4 ho4
    go_wp2_with fail
    have hcb1 := copyBytes_any As cs (l ++ nB true (wrap64 x)) w4 (by rw [HLS.out]; omega) (hs4b.more (by omega))
    rw [HLS.out] at hcb1
    refine hcb1.mono ?_
    rintro e w5 ⟨v1, rfl, ho5, hb5⟩
    clear hcb1
    have hb5' := hb5.mono (show w2.heap.size ≤ w4.heap.size by omega)
    have ht5 := ht4.below hb5'
    have hu5 := hu4.below hb5'
    have hs5 := hs4b.below hb5'
    have g45 := hb5.size
    clear ht4 hu4 hs4b
    go_wp2_with (at_builtin
                 refine app_slice _ rfl (.tmp 64) (.tmp 65) rfl w4.heap.size v1 (l ++ nB true (wrap64 x)) rfl ho5 A2 c2 w2.heap.size t rfl HC2.out ht5 (by rw [HLS.out]; omega) (by omega) ?_
                 intro v2 w6 ho6 hg6
                 have hb6 : Below w2.heap.size w5 w6 := (Below.refl _ _).grown hg6 (by omega) (fun k hk => by have := (ho5.lt k hk).1; omega)
                 obtain ⟨A6, n6, c6, rfl, hn6, _, _, hL6⟩ := ho6.formN)
    refine (putS_read l t c6 _ hL6 (by omega) (by omega) hy.1 hy.2 hn6.out).mono ?_
    rintro e w' ⟨rfl, rfl⟩
    have hu6 := hu5.below hb6
    have hs6 := hs5.below hb6
    have HB6 := Lib.hid ((HB4.out.trans hb5').trans hb6)
    have g56 := hb6.size
    clear ht5 hu5 hs5 hb5 hb5' hb6 ho5 hg6 hL6 ho6
    have HU := Lib.hid (fun k => cutU (w := w6) cu k hu6 (by omega))
    have HS := Lib.hid (fun k => cutS (w := w6) cs k hs6 (by omega))
    go_wp2
    go_loop [16] (fun i => ∃ k : Nat, l.length ≤ k ∧ k ≤ l.length + size false x ∧ i = .int .i64 k) (fun i => l.length + size false x - (intOf i).toNat)
    case atStart => exact ⟨l.length, by omega, by omega, rfl⟩
    case round =>
      obtain ⟨k, hk1, hk2, rfl⟩ := hrel
      by_cases hlt : k < l.length + size false x
      · have hkc : k ≤ cu := by omega
        go_wp2_with fail
        refine (HU.out k hk1 hlt).mono ?_
        rintro e w' ⟨⟨p, q, rfl⟩, rfl⟩
        go_wp2
        go_round
        case rel => exact ⟨k + 1, by omega, by omega, by go_num⟩
        case measure => simp [intOf]; omega
      · go_wp2
        go_loop [20] (fun i => ∃ k : Nat, l.length ≤ k ∧ k ≤ l.length + size true (wrap64 x) ∧ i = .int .i64 k) (fun i => l.length + size true (wrap64 x) - (intOf i).toNat)
        case atStart => exact ⟨l.length, by omega, by omega, rfl⟩
        case round =>
          obtain ⟨k, hk1, hk2, rfl⟩ := hrel
          by_cases hlt : k < l.length + size true (wrap64 x)
          · have hkc : k ≤ cs := by omega
            go_wp2_with fail
            refine (HS.out k hk1 hlt).mono ?_
            rintro e w' ⟨⟨p, q, rfl⟩, rfl⟩
            go_wp2
            go_round
            case rel => exact ⟨k + 1, by omega, by omega, by go_num⟩
            case measure => simp [intOf]; omega
          · go_wp2_with fail
            refine (works_any _).mono ?_
            rintro e w7 ⟨rfl, hb7⟩
            have hfin := (HB2.out.trans (HB6.out.mono HB2.out.size)).trans (hb7.mono (by have := HB2.out.size; omega))
            go_wp2
            go_ret
            exact ⟨rfl, hfin⟩
end Go.Proofs.Ytdnjlaoapopcfaa
