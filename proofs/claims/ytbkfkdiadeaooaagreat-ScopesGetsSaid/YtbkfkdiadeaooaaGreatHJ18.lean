/-
  Merged for a claim: S9W, S9X, S9Y, S9Z.
-/
import Derived.Test.YtbkfkdiadeaooaaGreatHS9V
import Derived.Test.YtbkfkdiadeaooaaGreatHJ12
import Derived.Test.YtbkfkdiadeaooaaGreatHL7L
namespace Go.Proofs.YtbkfkdiadeaooaaGreat
open Go Go.RowKit

def Sg9 (k : TypeId) : Prop := k = 44 ∨ k = 3
/-- the state between two places -/
structure GtI (gr B gx ga : Nat) (A : Option Addr) (c : Nat) (b : List UInt8) (s : RS) (a : Int) (W : World) : Prop where
  r : RdAt W gr A c b s
  b : Lies W B A b
  x : CAt W gx 42 [.pointer (some ⟨gr, 0, none⟩)]
  q : CAt W ga 3 [.int .i64 a]
  n : B ≤ gr ∧ B ≤ ga ∧ 0 ≤ a
section
variable {gr B gx ga : Nat} {A : Option Addr} {c : Nat} {b : List UInt8} {s s' : RS} {a : Int} {W w' : World}
theorem GtI.after (h : GtI gr B gx ga A c b s a W) (hr : RdAt w' gr A c b s') (ho : OnlyS Sr W w') (hb : Below B W w') : GtI gr B gx ga A c b s' a w' :=
  ⟨hr, h.b.below hb, (ho gx _ h.x.has (by unfold Sr; decide)).trans h.x, (ho ga _ h.q.has (by unfold Sr; decide)).trans h.q, h.n⟩
theorem GtI.below (h : GtI gr B gx ga A c b s a W) (hb : Below W.heap.size W w') : GtI gr B gx ga A c b s a w' :=
  h.after (h.r.below hb h.r.lt) (OnlyS.below hb) (hb.mono (by have := h.r.lt; have := h.n; omega))
theorem GtI.but (h : GtI gr B gx ga A c b s a W) (hb : ButT 49 W w') (hB : Below B W w') : GtI gr B gx ga A c b s a w' :=
  ⟨h.r.but hb (by decide), h.b.below hB, (hb gx _ h.x.has (by decide)).trans h.x, (hb ga _ h.q.has (by decide)).trans h.q, h.n⟩
theorem GtI.setA (h : GtI gr B gx ga A c b s a W) (a' : Int) (ha : 0 ≤ a') : GtI gr B gx ga A c b s a' (W.setCell ⟨ga, 0, none⟩ (.int .i64 a')) :=
  ⟨(Below.heap_setCell W ⟨ga, 0, none⟩ _ gr (h.r.has.ne h.q.has (by decide))).trans h.r, h.b.below ((Below.refl B W).setCell (p := ⟨ga, 0, none⟩) h.n.2.1 _), (Below.heap_setCell W ⟨ga, 0, none⟩ _ gx (h.x.has.ne h.q.has (by decide))).trans h.x, h.q.set 0 _, h.n.1, h.n.2.1, ha⟩
end
theorem pcX_rng (b : List UInt8) (a : Int) (s : RS) : a ≤ (pcX b a s).1.tt ∧ (pcX b a s).1.tt ≤ a + 33554432 := by
  unfold pcX
  dsimp only
  have := nmX_rng b (txT b s)
  have := nmX_rng b (nmS b (txT b s))
  omega
def GtR (gr B gx ga : Nat) (A : Option Addr) (c : Nat) (b : List UInt8) (x : Plc × RS) (w : World) (e : Ending) (w' : World) : Prop :=
  ∃ p : Pp, e = .returned (.agg (lK p)) ∧ p.d = x.1 ∧ PT w' p ∧ GtI gr B gx ga A c b x.2 x.1.tt w' ∧ OnlyS Sg9 w w' ∧ Below B w w'
set_option maxRecDepth 100000 in
set_option maxHeartbeats 8000000 in
theorem getin_any (gr B gx ga : Nat) (A : Option Addr) (c : Nat) (b : List UInt8) (s : RS) (a : Int) (w : World) (hc : b.length ≤ c) (hbn : b.length ≤ 1099511627776) (ha : a ≤ 1125899906842624) (hi : GtI gr B gx ga A c b s a w) :
    Calls Tryz.prog 16 #[.pointer (some ⟨gx, 0, none⟩), .pointer (some ⟨ga, 0, none⟩)] w (GtR gr B gx ga A c b (pcX b a s) w) := by
  have hb0 := below_lnew w (.cells #[.string ⟨#[]⟩, .int .i64 0, .int .i64 0, .slice none 0 0, .slice none 0 0] 49)
  have hz : B ≤ w.heap.size := by have := hi.r.lt; have := hi.n; omega
  have h1 := hi.below hb0
  have HI1 := Lib.hid h1
  have h40 := heap_alloc_new w (.cells #[.string ⟨#[]⟩, .int .i64 0, .int .i64 0, .slice none 0 0, .slice none 0 0] 49)
  have hz1 : w.heap.size + 1 ≤ (w.alloc (.cells #[.string ⟨#[]⟩, .int .i64 0, .int .i64 0, .slice none 0 0, .slice none 0 0] 49)).heap.size := by simp
  have HN := Lib.hid (place9_any gr B A c b s a _ hc hbn hi.n.1 ⟨hi.n.2.2, ha⟩ ⟨h1.r, h1.b⟩)
  have hrg := pcX_rng b a s
  have h0a := hi.n.2.2
  have xv := h1.x.cell (j := 0) (by simp)
  have av := h1.q.cell (j := 0) (by simp)
  simp only [List.getElem_cons_zero] at xv av
  have hga := hi.q.lt
  have HB0 := Lib.hid hb0
  have HZ := Lib.hid hz
  have H40 := Lib.hid h40
  have HZ1 := Lib.hid hz1
  obtain ⟨r, hr⟩ : ∃ r, pcX b a s = r := ⟨_, rfl⟩
  rw [hr] at HN hrg ⊢
  unfold GtR
  clear hi hb0 hz h1 hz1 h40 hr
  go_enter Tryz.func16, Tryz.ntmps16
  go_wp2_with fail
  refine HN.out.mono ?_
  rintro e w2 ⟨p, rfl, hp, ht, hi2, ho2, hb2⟩
  have HP := Lib.hid hp
  have hpt : p.tt = r.1.tt := by rw [← hp]; rfl
  have hz2 : w.heap.size + 1 ≤ w2.heap.size := Nat.le_trans HZ1.out hb2.size
  have hi3 := HI1.out.after hi2.1 ho2 hb2
  have hA3 := hi3.q.frozen 0
  have hA4 := hi3.q.cell (j := 0) (by simp)
  have h42 : CAt w2 w.heap.size 49 [.string ⟨#[]⟩, .int .i64 0, .int .i64 0, .slice none 0 0, .slice none 0 0] := (ho2 w.heap.size _ ⟨_, _, H40.out⟩ (by unfold Sr; decide)).trans H40.out
  have HI2 := Lib.hid hi3
  have HT2 := Lib.hid ht
  have H42 := Lib.hid h42
  have HO2 := Lib.hid ((OnlyS.below (S := Sr) HB0.out).trans ho2)
  have HB2 := Lib.hid ((HB0.out.mono HZ.out).trans hb2)
  have hga2 : ga < w2.heap.size := hi3.q.lt
  clear hp ht hi2 ho2 hb2 hi3 HN HI1 xv av
  obtain ⟨nm, fr, tt, vs, vA, vc, ss, sA, sc⟩ := p
  unfold lK tv
  dsimp only at hpt ⊢
  have HPT := Lib.hid hpt
  clear hpt
  have hne : w.heap.size < w2.heap.size := by omega
  have hng : ga < w2.heap.size := by omega
  have z0 := h42.cell (j := 0) (by simp)
  have zf0 := h42.frozen 0
  have z1 := h42.cell (j := 1) (by simp)
  have zf1 := h42.frozen 1
  have z2 := h42.cell (j := 2) (by simp)
  have zf2 := h42.frozen 2
  have z3 := h42.cell (j := 3) (by simp)
  have zf3 := h42.frozen 3
  have z4 := h42.cell (j := 4) (by simp)
  have zf4 := h42.frozen 4
  simp only [List.getElem_cons_zero, List.getElem_cons_succ] at z0 z1 z2 z3 z4 hA4
  clear h42
  go_wp2_with fail
  have t2 : HasT w2 ga 3 := HI2.out.q.has
  have t4 : HasT w2 w.heap.size 49 := H42.out.has
  have htt : 0 ≤ tt := by have := HPT.out; omega
  obtain ⟨w3, hw3⟩ : ∃ w3, w2.setCell ⟨ga, 0, none⟩ (.int .i64 tt) = w3 := ⟨_, rfl⟩
  have h3 : PT w3 ⟨nm, fr, tt, vs, vA, vc, ss, sA, sc⟩ := hw3 ▸ HT2.out.but (ButT.set (p := ⟨ga, 0, none⟩) t2 _) (by decide) (by decide) (by decide) (by decide) (by decide)
  have i3 : GtI gr B gx ga A c b r.2 tt w3 := hw3 ▸ HI2.out.setA tt htt
  have c3 : CAt w3 w.heap.size 49 [.string ⟨#[]⟩, .int .i64 0, .int .i64 0, .slice none 0 0, .slice none 0 0] := hw3 ▸ H42.out.other (by dsimp only; omega) _
  have o3 : OnlyS Sg9 w w3 := hw3 ▸ (HO2.out.mono fun _ q => Or.inl q).trans (OnlyS.grown (S := Sg9) (grown_set w2 ga 0 _) t2 (.inr rfl))
  have b3 : Below B w w3 := hw3 ▸ HB2.out.setCell (p := ⟨ga, 0, none⟩) HI2.out.n.2.1 _
  have t3 := c3.has
  rw [hw3]
  have hq := ((((ButT.set (p := ⟨w.heap.size, 0, none⟩) t3 (.string (str nm))).trans (ButT.set (p := ⟨w.heap.size, 1, none⟩) (t3.set _ _) (.int .i64 fr))).trans (ButT.set (p := ⟨w.heap.size, 2, none⟩) ((t3.set _ _).set _ _) (.int .i64 tt))).trans (ButT.set (p := ⟨w.heap.size, 3, none⟩) (((t3.set _ _).set _ _).set _ _) (.slice vA vs.length vc))).trans (ButT.set (p := ⟨w.heap.size, 4, none⟩) ((((t3.set _ _).set _ _).set _ _).set _ _) (.slice sA ss.length sc))
  have hzB : B ≤ w.heap.size := HZ.out
  have hbb : Below B w3 _ := (((((Below.refl B w3).setCell (p := ⟨w.heap.size, 0, none⟩) hzB (.string (str nm))).setCell (p := ⟨w.heap.size, 1, none⟩) hzB (.int .i64 fr)).setCell (p := ⟨w.heap.size, 2, none⟩) hzB (.int .i64 tt)).setCell (p := ⟨w.heap.size, 3, none⟩) hzB (.slice vA vs.length vc)).setCell (p := ⟨w.heap.size, 4, none⟩) hzB (.slice sA ss.length sc)
  have c5 := ((((c3.set 0 (.string (str nm))).set 1 (.int .i64 fr)).set 2 (.int .i64 tt)).set 3 (.slice vA vs.length vc)).set 4 (.slice sA ss.length sc)
  have h5 := h3.but hq (by decide) (by decide) (by decide) (by decide) (by decide)
  have i5 := i3.but hq hbb
  have o5 := ((((o3.set (p := ⟨w.heap.size, 0, none⟩) (Nat.le_refl _) (.string (str nm))).set (p := ⟨w.heap.size, 1, none⟩) (Nat.le_refl _) (.int .i64 fr)).set (p := ⟨w.heap.size, 2, none⟩) (Nat.le_refl _) (.int .i64 tt)).set (p := ⟨w.heap.size, 3, none⟩) (Nat.le_refl _) (.slice vA vs.length vc)).set (p := ⟨w.heap.size, 4, none⟩) (Nat.le_refl _) (.slice sA ss.length sc)
  have b5 := b3.trans hbb
  obtain ⟨w5, hw5⟩ : ∃ w5, ((((w3.setCell ⟨w.heap.size, 0, none⟩ (.string (str nm))).setCell ⟨w.heap.size, 1, none⟩ (.int .i64 fr)).setCell ⟨w.heap.size, 2, none⟩ (.int .i64 tt)).setCell ⟨w.heap.size, 3, none⟩ (.slice vA vs.length vc)).setCell ⟨w.heap.size, 4, none⟩ (.slice sA ss.length sc) = w5 := ⟨_, rfl⟩
  rw [hw5] at c5 h5 i5 o5 b5 ⊢
  have hl := below_lnew w5 (.cells #[.string (str nm), .int .i64 fr, .int .i64 tt, .slice vA vs.length vc, .slice sA ss.length sc] 49)
  refine bodyPost_ret (pc_back rfl rfl (c5.below hl c5.lt)) rfl ?_
  exact ⟨⟨nm, fr, tt, vs, vA, vc, ss, sA, sc⟩, rfl, HP.out, h5.below hl, HPT.out ▸ i5.below hl, o5.trans (OnlyS.below hl), b5.trans (hl.mono (by have := b5.size; omega))⟩
end Go.Proofs.YtbkfkdiadeaooaaGreat

namespace Go.Proofs.YtbkfkdiadeaooaaGreat
open Go Go.RowKit

theorem PT.keep {w w' : World} {p : Pp} (h : PT w p) (hk : ∀ k e, HasT w k e → e = 9 ∨ e = 67 ∨ e = 69 ∨ e = 77 ∨ e = 74 → w'.heap[k]? = w.heap[k]?) : PT w' p :=
  ⟨h.v.kept fun k q => hk k _ q (.inr (.inl rfl)), fun x hx => ⟨(h.vs x hx).1.kept fun k q => hk k _ q (.inl rfl), (h.vs x hx).2⟩, h.vc, h.s.kept fun k q => hk k _ q (.inr (.inr (.inl rfl))), fun x hx => (h.ss x hx).keep fun k e q he => hk k e q (.inr (.inr (.inr he))), h.sc⟩
def get9 (b : List UInt8) (s : RS × Int) : Plc × (RS × Int) := ((pcX b s.2 s.1).1, ((pcX b s.2 s.1).2, (pcX b s.2 s.1).1.tt))
def pt9 (b : List UInt8) (s : RS × Unit) : Pnt × (RS × Unit) := ((ptX b s.1).1, ((ptX b s.1).2, ()))
theorem oneGet {gr B gx ga G : Nat} {A : Option Addr} {c : Nat} {b : List UInt8} (hG : B ≤ G) (hc : b.length ≤ c) (hbn : b.length ≤ 1099511627776) (hB : B ≤ gr) :
    OneP eL (fun W p => PT W p) Pp.d (fun x => .agg (lK x)) Sg9 gr B G A c b (fun s W => GtI gr B gx ga A c b s.1 s.2 W) (get9 b) (fun a => (a / 33554432).toNat) 16 #[.pointer (some ⟨gx, 0, none⟩), .pointer (some ⟨ga, 0, none⟩)] where
  enter := fun a w => run_enter9 Tryz.func16 (by kernel_rfl) (by kernel_rfl) a w
  call := fun s W hi hz hs => (getin_any gr B gx ga A c b s.1 s.2 W hc hbn (by have := hi.n; omega) hi).mono fun e w' ⟨p, he, hp, ht, h, ho, hb⟩ => ⟨p, he, hp, ht, h, ho, hb⟩
  but := fun _ _ _ hi hb hB => hi.but hb (hB.mono hG)
  dbut := fun _ _ _ h hb => h.keep fun k e q he => hb k e q (by rcases he with rfl | rfl | rfl | rfl | rfl <;> decide)
  donly := fun _ _ _ h ho => h.keep fun k e q he => ho k e q (by unfold Sg9; rcases he with rfl | rfl | rfl | rfl | rfl <;> decide)
  rd := fun _ _ hi => hi.r
  upd := fun _ _ _ _ hi hr hg => hi.after hr (OnlyS.grown hg hi.r.has rfl) (below_gr hg hi.n.1 (by have := hi.r.lt; have := hi.n; omega))
  grow := fun s => by
    have := pcX_rng b s.2 s.1
    simp only [get9]
    omega
  rin := .inl rfl
  kout := by unfold Sg9; decide
  base := hB
theorem onePt {gr B G : Nat} {A : Option Addr} {c : Nat} {b : List UInt8} (hG : B ≤ G) (hc : b.length ≤ c) (hbn : b.length ≤ 1099511627776) (hB : B ≤ gr) :
    OneP eQ (fun W p => QT W p) Pq.d (fun x => .agg (qK x)) Sr gr B G A c b (InvB gr B A c b) (pt9 b) (fun _ => 0) 19 #[.pointer (some ⟨gr, 0, none⟩)] where
  enter := fun a w => run_enter9 Tryz.func19 (by kernel_rfl) (by kernel_rfl) a w
  call := fun s W hi hz _ => (point_any gr B A c b s.1 W hc hbn hB hi).mono fun e w' ⟨p, he, hp, ht, h, ho, hb⟩ => ⟨p, he, hp, ht, h, ho, hb⟩
  but := fun _ _ _ hi hb hB => ⟨hi.1.but hb (by decide), hi.2.below (hB.mono hG)⟩
  dbut := fun _ _ _ h hb => h.but hb (by decide)
  donly := fun _ _ _ h ho => ⟨h.1.kept fun k q => ho k _ q (by unfold Sr; decide), h.2⟩
  rd := fun _ _ hi => hi.1
  upd := fun _ _ _ _ hi hr hg => ⟨hr, hi.2.below (below_gr hg hB (by have := hi.1.lt; omega))⟩
  grow := fun _ => by omega
  rin := rfl
  kout := by unfold Sr; decide
  base := hB
end Go.Proofs.YtbkfkdiadeaooaaGreat

namespace Go.Proofs.YtbkfkdiadeaooaaGreat
open Go Go.RowKit

theorem rightL_sm {ps : List Ps} (h : rightL (ps.map Ps.sp) = true) : ps.length ≤ 4000 ∧ ∀ p ∈ ps, p.a.length ≤ 16 := by
  rw [rightL_map, Bool.and_eq_true] at h
  refine ⟨of_decide_eq_true h.1, fun p hp => ?_⟩
  rw [← prs_snd ps] at hp
  obtain ⟨q, hq, rfl⟩ := List.mem_map.1 hp
  exact right_len (okP_iff.1 (List.all_eq_true.1 h.2 q hq)).2.2.2.2
theorem gotS_right {b : List UInt8} {k n : Nat} {ls : List Sp} (h : gotS b k = some (ls, n)) : rightL ls = true := by
  unfold gotS at h
  split at h
  · cases h1 : runS b (k + lg (b.drop k) 10) (hv false (b.drop k)).toNat with
    | none => rw [h1] at h; cases h
    | some s =>
      rw [h1] at h
      simp only [Option.bind_some] at h
      split at h
      · rename_i hr
        simp only [Option.some.injEq, Prod.mk.injEq] at h
        rw [← h.1]
        exact hr
      · cases h
  · cases h
theorem gsL_sm {b : List UInt8} {i : Int} {ps : List Ps} (h : ps.map Ps.sp = gsL b i) : Sm ps := by
  rcases gs_cases (b := b) i with ⟨_, h2, _⟩ | ⟨k, n, _, _, hg, _, _⟩
  · rw [h2] at h
    have : ps = [] := by simpa using h
    subst this
    exact ⟨by simp, fun p hp => absurd hp (by simp)⟩
  · have hr := gotS_right hg
    rw [← h] at hr
    obtain ⟨h1, h2⟩ := rightL_sm hr
    exact ⟨by omega, fun p hp => by have := h2 p hp; omega⟩
theorem goL_len {δ σ : Type} (no : σ → Bool) (one : σ → δ × σ) : ∀ (n : Nat) (s : σ), (goL no one n s).1.length ≤ n
  | 0, _ => by simp [goL]
  | n + 1, s => by
    rw [goL]
    split
    · simp
    · simpa using goL_len no one n (one s).2
theorem goL_all {δ σ : Type} (no : σ → Bool) (one : σ → δ × σ) {Q : δ → Prop} (h : ∀ s, Q (one s).1) : ∀ (n : Nat) (s : σ), ∀ x ∈ (goL no one n s).1, Q x
  | 0, _ => by simp [goL]
  | n + 1, s => by
    rw [goL]
    split
    · simp
    · intro x hx
      rcases List.mem_cons.1 hx with rfl | hx
      · exact h s
      · exact goL_all no one h n _ x hx
theorem goL_inv {δ σ : Type} (no : σ → Bool) (one : σ → δ × σ) {I : σ → Prop} (h : ∀ s, I s → I (one s).2) : ∀ (n : Nat) (s : σ), I s → I (goL no one n s).2
  | 0, _, hs => by simpa [goL] using hs
  | n + 1, s, hs => by
    rw [goL]
    split
    · exact hs
    · exact goL_inv no one h n _ (h s hs)
theorem lsP_len {δ τ : Type} (b : List UInt8) (most : Int) (one : RS × τ → δ × (RS × τ)) (s : RS × τ) : (lsP b most one s).1.length ≤ 16777216 := by
  have := goL_len (fun q : RS × τ => q.1.no) one (nmX b s.1).toNat (if most < nmX b s.1 then { nmS b s.1 with no := true } else nmS b s.1, s.2)
  have := nmX_rng b s.1
  unfold lsP
  omega
theorem lsP_all {δ τ : Type} (b : List UInt8) (most : Int) (one : RS × τ → δ × (RS × τ)) (s : RS × τ) {Q : δ → Prop} (h : ∀ s, Q (one s).1) : ∀ x ∈ (lsP b most one s).1, Q x := goL_all _ _ h _ _
theorem lsP_inv {δ τ : Type} (b : List UInt8) (most : Int) (one : RS × τ → δ × (RS × τ)) (s : RS × τ) {I : τ → Prop} (h : ∀ s : RS × τ, I s.2 → I (one s).2.2) (h0 : I s.2) : I (lsP b most one s).2.2 := goL_inv _ _ (I := fun q : RS × τ => I q.2) h _ _ h0
/-- a table that was read is small -/
theorem got_sm (b : List UInt8) (s : RS × Int) (s' : RS × Unit) (ps : List Pp) (qs : List Pq) (hp : ps.map Pp.d = (lsP b 64 (get9 b) s).1) (hq : qs.map Pq.d = (lsP b 1000 (pt9 b) s').1) : SmT ps qs := by
  refine ⟨fun p hpm r hr => ?_, fun q hqm => ?_⟩
  · have h1 : ∃ a t, p.d = (pcX b a t).1 := lsP_all b 64 (get9 b) s (Q := fun d => ∃ a t, d = (pcX b a t).1) (fun q => ⟨_, _, rfl⟩) p.d (hp ▸ List.mem_map_of_mem hpm)
    obtain ⟨a, t, h1⟩ := h1
    have h2 : ∀ l ∈ p.d.ss, ∃ i, l = gsL b i ∨ l = [] := by
      rw [h1]
      exact lsP_inv b 64 (plc9 b) _ (I := fun ls => ∀ l ∈ ls, ∃ i, l = gsL b i ∨ l = []) (fun q hI l hl => by
        rcases List.mem_append.1 hl with hl | hl
        · exact hI l hl
        · rw [List.mem_singleton.1 hl]
          unfold spX
          split
          · exact ⟨0, .inr rfl⟩
          · exact ⟨_, .inl rfl⟩) (fun l hl => absurd hl (by simp))
    obtain ⟨i, h3 | h3⟩ := h2 r.d (List.mem_map_of_mem hr)
    · exact gsL_sm h3
    · have : r.l = [] := by simpa [Rs.d] using h3
      rw [this]
      exact ⟨by simp, fun p hp => absurd hp (by simp)⟩
  · have h1 : ∃ t, q.d = (ptX b t).1 := lsP_all b 1000 (pt9 b) s' (Q := fun d => ∃ t, d = (ptX b t).1) (fun q => ⟨_, rfl⟩) q.d (hq ▸ List.mem_map_of_mem hqm)
    obtain ⟨t, h1⟩ := h1
    rw [h1]
    have := lsP_len b 64 (nm9 b) (nmS b (nmS b t), ())
    unfold ptX
    dsimp only
    omega
end Go.Proofs.YtbkfkdiadeaooaaGreat

namespace Go.Proofs.YtbkfkdiadeaooaaGreat
open Go Go.RowKit

def gtL (b : List UInt8) (i : Int) : List Plc × (RS × Int) := lsP b 64 (get9 b) (⟨i, false⟩, 0)
def gtQ (b : List UInt8) (i : Int) : List Pnt × (RS × Unit) := lsP b 1000 (pt9 b) ((gtL b i).2.1, ())
def gtOk (b : List UInt8) (i : Int) : Bool := !(gtQ b i).2.1.no && right9 (gtL b i).1 (gtQ b i).1
def gtE (b : List UInt8) (i : Int) : Int := if i < 0 ∨ (b.length : Int) < i then 1 else if gtOk b i = true then 0 else 5
def GetR9 (b : List UInt8) (i : Int) (w : World) (e : Ending) (w' : World) : Prop :=
  ∃ v1 v2, e = .returned (.tuple #[v1, v2, .int .i64 (if gtE b i = 0 then (gtQ b i).2.1.at_ else 0), .int .i64 (gtE b i)]) ∧ PO w' w.heap.size v1 (if gtE b i = 0 then (gtL b i).1 else []) ∧ QO w' w.heap.size v2 (if gtE b i = 0 then (gtQ b i).1 else []) ∧ Below w.heap.size w w'
theorem results_tmp4 {fn : Func} {t u v x : Tmp} (h : fn.results = #[.tmp t, .tmp u, .tmp v, .tmp x]) (tmps : Array Value) (P : Program) (w : World) :
    (results fn tmps).run P w = .ok (.tuple #[tmps.getD t undef, tmps.getD u undef, tmps.getD v undef, tmps.getD x undef]) w := by
  simp [results, h]

set_option maxRecDepth 100000 in
set_option maxHeartbeats 8000000 in
theorem get9_any (A : Option Addr) (c : Nat) (b : List UInt8) (i : Int) (w : World) (hc : b.length ≤ c) (hbn : b.length ≤ 1099511627776) (h : Lies w w.heap.size A b) :
    Calls Tryz.prog 6 #[.slice A b.length c, .int .i64 i] w (GetR9 b i w) := by
  by_cases h0 : i < 0
  · have hE := Lib.hid (show gtE b i = 1 from by unfold gtE; rw [if_pos (.inl h0)])
    go_enter Tryz.func6, Tryz.ntmps6
    go_wp2_with fail
    refine bodyPost_ret (results_tmp4 rfl _ _ _) rfl ?_
    exact ⟨_, _, by rw [hE.out]; rfl, by rw [hE.out]; exact PO.nil _ _, by rw [hE.out]; exact QO.nil _ _, Below.refl _ _⟩
  · by_cases h1 : (b.length : Int) < i
    · have hE := Lib.hid (show gtE b i = 1 from by unfold gtE; rw [if_pos (.inr h1)])
      go_enter Tryz.func6, Tryz.ntmps6
      go_wp2_with fail
      refine bodyPost_ret (results_tmp4 rfl _ _ _) rfl ?_
      exact ⟨_, _, by rw [hE.out]; rfl, by rw [hE.out]; exact PO.nil _ _, by rw [hE.out]; exact QO.nil _ _, Below.refl _ _⟩
    · have hb0 : Below w.heap.size w (((w.alloc (.cells #[.slice A b.length c, .int .i64 i, .bool false] 44)).alloc (.cells #[.pointer (some ⟨w.heap.size, 0, none⟩)] 42)).alloc (.cells #[.int .i64 0] 3)) := (below_lnew2 w _ _).alloc (by simp; omega) _
      have hz0 : (((w.alloc (.cells #[.slice A b.length c, .int .i64 i, .bool false] 44)).alloc (.cells #[.pointer (some ⟨w.heap.size, 0, none⟩)] 42)).alloc (.cells #[.int .i64 0] 3)).heap.size = w.heap.size + 3 := by simp
      have gt0 : GtI w.heap.size w.heap.size (w.heap.size + 1) (w.heap.size + 1 + 1) A c b ⟨i, false⟩ 0 (((w.alloc (.cells #[.slice A b.length c, .int .i64 i, .bool false] 44)).alloc (.cells #[.pointer (some ⟨w.heap.size, 0, none⟩)] 42)).alloc (.cells #[.int .i64 0] 3)) := by
        refine ⟨?_, h.below hb0, ?_, ?_, Nat.le_refl _, by omega, by omega⟩
        · exact ((below_lnew2 _ _ _).block w.heap.size (by simp)).trans (heap_alloc_new w _)
        · exact ((below_lnew _ _).block (w.heap.size + 1) (by simp)).trans (heap9 w _ _)
        · have := heap9 (w.alloc (.cells #[.slice A b.length c, .int .i64 i, .bool false] 44)) (.cells #[.pointer (some ⟨w.heap.size, 0, none⟩)] 42) (.cells #[.int .i64 0] 3)
          simpa [CAt] using this
      have HB0 := Lib.hid hb0
      have HZ0 := Lib.hid hz0
      have HL := Lib.hid (listL_any (fun W p => PT W p) Pp.d Sg9 w.heap.size w.heap.size A c b (fun s W => GtI w.heap.size w.heap.size (w.heap.size + 1) (w.heap.size + 1 + 1) A c b s.1 s.2 W) (get9 b) (fun a => (a / 33554432).toNat) 16 #[] #[.pointer (some ⟨w.heap.size + 1, 0, none⟩), .pointer (some ⟨w.heap.size + 1 + 1, 0, none⟩)] 64 (⟨i, false⟩, 0) _ hc hbn gt0.b (by omega) (oneGet (by omega) hc hbn (Nat.le_refl _)) gt0 (by omega) rfl)
      have HI0 := Lib.hid gt0
      have xv := gt0.x.cell (j := 0) (by simp)
      simp only [List.getElem_cons_zero] at xv
      clear hb0 hz0 gt0
      go_enter Tryz.func6, Tryz.ntmps6
      go_wp2_with fail
      refine HL.out.mono ?_
      rintro e w1 ⟨v, xs, rfl, hx, hO, hD, hI, hS, hB⟩
      change xs.map Pp.d = (gtL b i).1 at hx
      change GtI _ _ _ _ A c b (gtL b i).2.1 (gtL b i).2.2 w1 at hI
      obtain ⟨A1, c1, rfl, hl1, hc1, hT1⟩ := hO.form
      have hz1 := hB.size
      have HT1 := Lib.hid hT1
      have HQ := Lib.hid (listQ_any (fun W p => QT W p) Pq.d Sr w.heap.size w.heap.size A c b (InvB w.heap.size w.heap.size A c b) (pt9 b) (fun _ => 0) 19 #[.pointer (some ⟨w.heap.size, 0, none⟩)] #[] 1000 ((gtL b i).2.1, ()) w1 hc hbn hI.b (by omega) (onePt (by have := HZ0.out; omega) hc hbn (Nat.le_refl _)) ⟨hI.r, hI.b⟩ (by have := HZ0.out; omega) rfl)
      have xv1 := hI.x.cell (j := 0) (by simp)
      simp only [List.getElem_cons_zero] at xv1
      have HX1 := Lib.hid hx
      have HO1 := Lib.hid hO
      have HD1 := Lib.hid hD
      have HI1 := Lib.hid hI
      have HB1 := Lib.hid (HB0.out.trans hB)
      have HZ1 := Lib.hid (show w.heap.size + 3 ≤ w1.heap.size by have := HZ0.out; omega)
      clear hx hO hD hI hS hB hl1 hc1 hT1 HL HI0 HB0 hz1
      go_wp2_with fail
      refine HQ.out.mono ?_
      rintro e w2 ⟨v2, ys, rfl, hy, hO2, hD2, hI2, hS2, hB2⟩
      change ys.map Pq.d = (gtQ b i).1 at hy
      change InvB _ _ A c b (gtQ b i).2 w2 at hI2
      obtain ⟨A2, c2, rfl, hl2, hc2, hT2⟩ := hO2.form
      have HX2 := Lib.hid hy
      have hpt2 : ∀ p ∈ xs, PT w2 p := fun p hp => (HD1.out p hp).keep fun k e q he => hS2 k e q (by unfold Sr; rcases he with rfl | rfl | rfl | rfl | rfl <;> decide)
      have HP2 := Lib.hid (show PO w2 w.heap.size (.slice A1 xs.length c1) (gtL b i).1 from ⟨xs, HX1.out, (HO1.out.kept fun k q => hS2 k _ q (by unfold Sr; decide)).base (by have := HZ0.out; omega), hpt2⟩)
      have HTL := Lib.hid (show TL w2 w2.heap.size A1 xs from ⟨(HT1.out.kept fun k q => hS2 k _ q (by unfold Sr; decide)).lies, fun p hp => (hpt2 p hp).pl⟩)
      have HUL := Lib.hid (show UL w2 w2.heap.size A2 ys from ⟨hT2.lies, fun q hq => (hD2 q hq).ql⟩)
      have HQ2 := Lib.hid (show QO w2 w.heap.size (.slice A2 ys.length c2) (gtQ b i).1 from ⟨ys, hy, hO2.base (by have := HZ1.out; omega), hD2⟩)
      have HB2 := Lib.hid (HB1.out.trans hB2)
      have hx2 : CAt w2 (w.heap.size + 1) 42 _ := (hS2 _ _ HI1.out.x.has (by unfold Sr; decide)).trans HI1.out.x
      have xv2 := hx2.cell (j := 0) (by simp)
      simp only [List.getElem_cons_zero] at xv2
      have n2 := hI2.1.n2
      have a2 := hI2.1.a1
      clear hy hO2 hD2 hI2 hS2 hB2 hx2 hl2 hc2 hT2 HQ xv1 hpt2
      have HOK := Lib.hid (show gtE b i = if gtOk b i = true then 0 else 5 from by unfold gtE; rw [if_neg (by omega)])
      cases hno : (gtQ b i).2.1.no
      · rw [hno] at n2
        have HE := Lib.hid (show gtOk b i = right9 (xs.map Pp.d) (ys.map Pq.d) from by unfold gtOk; rw [hno, HX1.out, HX2.out]; rfl)
        have HR := Lib.hid (right9_any A1 A2 c1 c2 xs ys w2 (got_sm b _ _ xs ys HX1.out HX2.out) HTL.out HUL.out)
        clear hno
        cases hr9 : right9 (xs.map Pp.d) (ys.map Pq.d)
        · rw [hr9] at HR
          have HF := Lib.hid (show gtE b i = 5 from by rw [HOK.out, HE.out, hr9]; rfl)
          clear hr9 HE
          go_wp2_with fail
          refine HR.out.mono ?_
          rintro e w3 ⟨rfl, hb3⟩
          have at3 := (hb3.cell (p := ⟨w.heap.size, 1, none⟩) (World.block_lt_of_cell? w2 _ a2)).trans a2
          have xv3 := (hb3.cell (p := ⟨w.heap.size + 1, 0, none⟩) (World.block_lt_of_cell? w2 _ xv2)).trans xv2
          have HB3 := Lib.hid (HB2.out.trans (hb3.mono HB2.out.size))
          have HW3 := Lib.hid hb3
          clear hb3 HR n2 a2 xv2
          go_wp2_with fail
          refine bodyPost_ret (results_tmp4 rfl _ _ _) rfl ?_
          exact ⟨_, _, by rw [HF.out]; rfl, by rw [HF.out]; exact PO.nil _ _, by rw [HF.out]; exact QO.nil _ _, HB3.out⟩
        · rw [hr9] at HR
          have HF := Lib.hid (show gtE b i = 0 from by rw [HOK.out, HE.out, hr9]; rfl)
          clear hr9 HE
          go_wp2_with fail
          refine HR.out.mono ?_
          rintro e w3 ⟨rfl, hb3⟩
          have at3 := (hb3.cell (p := ⟨w.heap.size, 1, none⟩) (World.block_lt_of_cell? w2 _ a2)).trans a2
          have xv3 := (hb3.cell (p := ⟨w.heap.size + 1, 0, none⟩) (World.block_lt_of_cell? w2 _ xv2)).trans xv2
          have HB3 := Lib.hid (HB2.out.trans (hb3.mono HB2.out.size))
          have HW3 := Lib.hid hb3
          clear hb3 HR n2 a2 xv2
          go_wp2_with fail
          go_quiet (fail)
          have hbq := below_draws (B := w3.heap.size) (w := w3) nq
          go_wp2_with fail
          refine bodyPost_ret (results_tmp4 rfl _ _ _) rfl ?_
          exact ⟨_, _, by rw [HF.out]; rfl, by rw [HF.out]; exact (HP2.out.below HW3.out).below hbq, by rw [HF.out]; exact (HQ2.out.below HW3.out).below hbq, HB3.out.trans (hbq.mono HB3.out.size)⟩
      · rw [hno] at n2
        have HE := Lib.hid (show gtE b i = 5 from by rw [HOK.out]; unfold gtOk; rw [hno]; rfl)
        clear hno
        go_wp2_with fail
        refine bodyPost_ret (results_tmp4 rfl _ _ _) rfl ?_
        exact ⟨_, _, by rw [HE.out]; rfl, by rw [HE.out]; exact PO.nil _ _, by rw [HE.out]; exact QO.nil _ _, HB2.out⟩
end Go.Proofs.YtbkfkdiadeaooaaGreat
