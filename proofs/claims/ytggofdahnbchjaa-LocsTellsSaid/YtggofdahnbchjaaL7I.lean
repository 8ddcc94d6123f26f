/-
  The contracts of locs.Cut and Join.
-/
import Derived.Test.YtggofdahnbchjaaL7H
namespace Go.Proofs.Ytggofdahnbchjaa
open Go Go.RowKit

/-- what is left of a span; of spans -/
def cutS (fr to : Int) (x : Sp) : List Sp := (if x.f < min x.t fr then [{ x with t := min x.t fr }] else []) ++ (if max x.f to < x.t then [{ x with f := max x.f to }] else [])
def cutL (fr to : Int) (xs : List Sp) : List Sp := if to ≤ fr then xs else xs.flatMap (cutS fr to)
/-- spans behind a first one, joined -/
def joinS : Sp → List Sp → List Sp
  | now, [] => [now]
  | now, x :: xs => if x.f = now.t ∧ x.a = now.a then joinS { now with t := x.t } xs else now :: joinS x xs
def joinL : List Sp → List Sp
  | [] => []
  | x :: xs => joinS x xs
theorem cutP_sp (fr to : Int) (p : Ps) : (cutP fr to p).map Ps.sp = cutS fr to p.sp := by
  unfold cutP cutS
  rw [List.map_append]
  have h1 : p.sp.f = p.f := rfl
  have h2 : p.sp.t = p.t := rfl
  rw [h1, h2]
  split <;> split <;> rfl
theorem pieces_sp (fr to : Int) : ∀ ps : List Ps, (pieces fr to ps).map Ps.sp = (ps.map Ps.sp).flatMap (cutS fr to)
  | [] => rfl
  | p :: ps => by
    unfold pieces
    rw [List.flatMap_cons, List.map_append, cutP_sp, List.map_cons, List.flatMap_cons]
    congr 1
    exact pieces_sp fr to ps
theorem cutP_len (fr to : Int) (p : Ps) : (cutP fr to p).length ≤ 2 := by
  unfold cutP
  rw [List.length_append]
  split <;> split <;> simp
theorem pieces_len (fr to : Int) : ∀ ps : List Ps, (pieces fr to ps).length ≤ 2 * ps.length
  | [] => by simp [pieces]
  | p :: ps => by
    have h1 := cutP_len fr to p
    have h2 := pieces_len fr to ps
    unfold pieces at h2 ⊢
    rw [List.flatMap_cons, List.length_append, List.length_cons]
    omega
theorem cutP_mem {fr to : Int} {p q : Ps} (h : q ∈ cutP fr to p) : q.a = p.a ∧ q.A = p.A ∧ q.c = p.c := by
  unfold cutP at h
  rcases List.mem_append.1 h with h | h <;> split at h
  · rw [List.mem_singleton] at h; subst h; exact ⟨rfl, rfl, rfl⟩
  · cases h
  · rw [List.mem_singleton] at h; subst h; exact ⟨rfl, rfl, rfl⟩
  · cases h
theorem pieces_mem {fr to : Int} {ps : List Ps} {q : Ps} (h : q ∈ pieces fr to ps) : ∃ p ∈ ps, q.a = p.a ∧ q.A = p.A ∧ q.c = p.c := by
  obtain ⟨p, hp, hq⟩ := List.mem_flatMap.1 h
  exact ⟨p, hp, cutP_mem hq⟩
theorem mn_of {w : World} {B : Nat} {p q : Ps} (h : Mn w B p) (e : q.a = p.a ∧ q.A = p.A ∧ q.c = p.c) : Mn w B q := by
  unfold Mn at h ⊢
  rw [e.1, e.2.1, e.2.2]
  exact h
theorem joinP_sp : ∀ (ps : List Ps) (now : Ps), (joinP now ps).map Ps.sp = joinS now.sp (ps.map Ps.sp)
  | [], _ => rfl
  | p :: ps, now => by
    rw [List.map_cons]
    by_cases h : p.f = now.t ∧ p.a = now.a
    · rw [joinP_hit h, joinP_sp ps]
      have h' : p.sp.f = now.sp.t ∧ p.sp.a = now.sp.a := h
      rw [joinS, if_pos h']
      rfl
    · rw [joinP_miss h, List.map_cons, joinP_sp ps]
      have h' : ¬ (p.sp.f = now.sp.t ∧ p.sp.a = now.sp.a) := h
      rw [joinS, if_neg h']
theorem joinQ_sp : ∀ ps : List Ps, (joinQ ps).map Ps.sp = joinL (ps.map Ps.sp)
  | [] => rfl
  | p :: ps => joinP_sp ps p
theorem joinP_mem : ∀ (ps : List Ps) (now q : Ps), q ∈ joinP now ps → ∃ p, (p = now ∨ p ∈ ps) ∧ q.a = p.a ∧ q.A = p.A ∧ q.c = p.c
  | [], now, q, h => by rw [joinP, List.mem_singleton] at h; subst h; exact ⟨q, .inl rfl, rfl, rfl, rfl⟩
  | p :: ps, now, q, h => by
    by_cases hc : p.f = now.t ∧ p.a = now.a
    · rw [joinP_hit hc] at h
      obtain ⟨r, hr, e⟩ := joinP_mem ps _ q h
      rcases hr with rfl | hr
      · exact ⟨now, .inl rfl, e⟩
      · exact ⟨r, .inr (List.mem_cons_of_mem _ hr), e⟩
    · rw [joinP_miss hc] at h
      rcases List.mem_cons.1 h with rfl | h
      · exact ⟨q, .inl rfl, rfl, rfl, rfl⟩
      · obtain ⟨r, hr, e⟩ := joinP_mem ps p q h
        rcases hr with rfl | hr
        · exact ⟨r, .inr (by simp), e⟩
        · exact ⟨r, .inr (List.mem_cons_of_mem _ hr), e⟩
theorem joinQ_mem {ps : List Ps} {q : Ps} (h : q ∈ joinQ ps) : ∃ p ∈ ps, q.a = p.a ∧ q.A = p.A ∧ q.c = p.c := by
  cases ps with
  | nil => cases h
  | cons p ps =>
    obtain ⟨r, hr, e⟩ := joinP_mem ps p q h
    exact ⟨r, by rcases hr with rfl | hr <;> simp [*], e⟩
theorem joinP_len : ∀ (ps : List Ps) (now : Ps), (joinP now ps).length ≤ ps.length + 1
  | [], _ => by simp [joinP]
  | p :: ps, now => by
    by_cases hc : p.f = now.t ∧ p.a = now.a
    · rw [joinP_hit hc]
      have := joinP_len ps { now with t := p.t }
      simp only [List.length_cons]
      omega
    · rw [joinP_miss hc]
      have := joinP_len ps p
      simp only [List.length_cons]
      omega
theorem joinQ_len (ps : List Ps) : (joinQ ps).length ≤ ps.length := by
  cases ps with
  | nil => simp [joinQ]
  | cons p ps => exact joinP_len ps p

theorem below_lnew3 (w : World) (o o2 o3 : Obj) : Below w.heap.size w (((w.alloc o).alloc o2).alloc o3) := (below_lnew2 w o o2).alloc (by simp; omega) _
set_option maxRecDepth 100000 in
set_option maxHeartbeats 1000000 in
theorem cut7_any (A : Option Addr) (c : Nat) (ps : List Ps) (fr to : Int) (w : World) (hs : Sm ps) (hl : ps.length ≤ 100000) (h : SLies w w.heap.size A ps) :
    Calls Try.prog 23 #[.slice A ps.length c, .int .i64 fr, .int .i64 to] w (MadeSpans w (cutL fr to (ps.map Ps.sp))) := by
  by_cases hft : to ≤ fr
  · have hE : cutL fr to (ps.map Ps.sp) = ps.map Ps.sp := if_pos hft
    have hB := below_lnew w (.cells #[.slice A ps.length c] 23)
    have bS := Boxed.new w 23 (.slice A ps.length c)
    have HK := Lib.hid (kept7_any 62 #[.pointer (some ⟨w.heap.size, 0, none⟩)] ps (w.alloc (.cells #[.slice A ps.length c] 23)) (run_enterC Try.func62 (by kernel_rfl) (by kernel_rfl))
      (fun w1 hb => values_seq w.heap.size _ c A ps w1 (by have := hb.size; simp at this; omega) ((hb.cell (p := ⟨w.heap.size, 0, none⟩) (by simp)).trans bS.cell) (((h.next hB).1.below hb)) hb.size hs.1)
      (fun p hp => (h.next hB).2 p hp) hs.2 (by omega))
    rw [hE]
    clear hE h bS
    go_enter Try.func23, Try.ntmps23
    go_wp2_with fail
    refine (values_any A _ c _).mono ?_
    rintro e w1 ⟨rfl, rfl⟩
    go_wp2_with fail
    refine HK.out.mono ?_
    rintro e w2 ⟨v, rfl, ho, hb⟩
    go_wp2_with fail
    go_ret
    exact ⟨v, rfl, ho.base (by simp), hB.trans (hb.mono (by simp))⟩
  · have hE : cutL fr to (ps.map Ps.sp) = (pieces fr to ps).map Ps.sp := (if_neg hft).trans (pieces_sp fr to ps).symm
    have hB := below_lnew3 w (.cells #[.slice A ps.length c] 23) (.cells #[.int .i64 fr] 3) (.cells #[.int .i64 to] 3)
    have b1 := ((Boxed.new w 23 (.slice A ps.length c)).alloc (.cells #[.int .i64 fr] 3)).alloc (.cells #[.int .i64 to] 3)
    have b2 := (Boxed.new (w.alloc (.cells #[.slice A ps.length c] 23)) 3 (.int .i64 fr)).alloc (.cells #[.int .i64 to] 3)
    have b3 := Boxed.new ((w.alloc (.cells #[.slice A ps.length c] 23)).alloc (.cells #[.int .i64 fr] 3)) 3 (.int .i64 to)
    simp only [World.size_alloc] at b2 b3
    have hz : (((w.alloc (.cells #[.slice A ps.length c] 23)).alloc (.cells #[.int .i64 fr] 3)).alloc (.cells #[.int .i64 to] 3)).heap.size = w.heap.size + 3 := by simp
    have hn := h.next hB
    have hpl := pieces_len fr to ps
    have HK := Lib.hid (kept7_any 63 #[.pointer (some ⟨w.heap.size, 0, none⟩), .pointer (some ⟨w.heap.size + 1, 0, none⟩), .pointer (some ⟨w.heap.size + 1 + 1, 0, none⟩)] (pieces fr to ps) _ (run_enterC Try.func63 (by kernel_rfl) (by kernel_rfl))
      (fun w1 hb => outside_seq w.heap.size (w.heap.size + 1) (w.heap.size + 1 + 1) _ c A ps fr to w1 (by omega) (by omega) (by omega) ((hb.cell (p := ⟨w.heap.size, 0, none⟩) (by dsimp only; omega)).trans b1.cell) ((hb.cell (p := ⟨w.heap.size + 1, 0, none⟩) (by dsimp only; omega)).trans b2.cell)
        ((hb.cell (p := ⟨w.heap.size + 1 + 1, 0, none⟩) (by dsimp only; omega)).trans b3.cell) (hn.1.below hb) hb.size hs.1)
      (fun q hq => by obtain ⟨p, hp, e⟩ := pieces_mem hq; exact mn_of (hn.2 p hp) e) (fun q hq => by obtain ⟨p, hp, e⟩ := pieces_mem hq; rw [e.1]; exact hs.2 p hp) (by omega))
    rw [hE]
    have hft' : fr < to := by omega
    clear hE h hn b1 b2 b3 hpl
    go_enter Try.func23, Try.ntmps23
    go_wp2_with fail
    refine (outside_any A _ c fr to _).mono ?_
    rintro e w1 ⟨rfl, rfl⟩
    go_wp2_with fail
    refine HK.out.mono ?_
    rintro e w2 ⟨v, rfl, ho, hb⟩
    go_wp2_with fail
    go_ret
    exact ⟨v, rfl, ho.base (by omega), hB.trans (hb.mono (by omega))⟩
set_option maxRecDepth 100000 in
set_option maxHeartbeats 1000000 in
theorem join7_any (A : Option Addr) (c : Nat) (ps : List Ps) (w : World) (hc : ps.length ≤ c) (hs : Sm ps) (hl : ps.length ≤ 100000) (h : SLies w w.heap.size A ps) :
    Calls Try.prog 24 #[.slice A ps.length c] w (MadeSpans w (joinL (ps.map Ps.sp))) := by
  have hB := below_lnew w (.cells #[.slice A ps.length c] 23)
  have bS := Boxed.new w 23 (.slice A ps.length c)
  have hn := h.next hB
  have hjl := joinQ_len ps
  have HK := Lib.hid (kept7_any 64 #[.pointer (some ⟨w.heap.size, 0, none⟩)] (joinQ ps) (w.alloc (.cells #[.slice A ps.length c] 23)) (run_enterC Try.func64 (by kernel_rfl) (by kernel_rfl))
    (fun w1 hb => joined_seq w.heap.size _ c A ps w1 (by simp) hc ((hb.cell (p := ⟨w.heap.size, 0, none⟩) (by simp)).trans bS.cell) (hn.below hb) hb.size hs)
    (fun q hq => by obtain ⟨p, hp, e⟩ := joinQ_mem hq; exact mn_of (hn.2 p hp) e) (fun q hq => by obtain ⟨p, hp, e⟩ := joinQ_mem hq; rw [e.1]; exact hs.2 p hp) (by omega))
  rw [joinQ_sp] at HK
  clear h bS hn hjl
  go_enter Try.func24, Try.ntmps24
  go_wp2_with fail
  refine (joined_any A _ c _).mono ?_
  rintro e w1 ⟨rfl, rfl⟩
  go_wp2_with fail
  refine HK.out.mono ?_
  rintro e w2 ⟨v, rfl, ho, hb⟩
  go_wp2_with fail
  go_ret
  exact ⟨v, rfl, ho.base (by simp), hB.trans (hb.mono (by simp))⟩
end Go.Proofs.Ytggofdahnbchjaa
