/-
  The contracts of slices.Clone over steps, and of locs.At.
-/
import Derived.Test.YtggofdahnbchjaaL7C
import Derived.WalkSpells
namespace Go.Proofs.Ytggofdahnbchjaa
open Go Go.RowKit

theorem LOwn.lets {E : Nat → Prop} {B B' : Nat} {A C : World} {v : Value} {l : List Lc} (h : LOwn A B v l) (hl : Lets E B' A C) (hE : ∀ k, E k → k < B) : LOwn C B v l := by
  refine ⟨h.1, ?_⟩
  rcases h.2 with h0 | ⟨g, cap, cur, rfl, hg, hh, r⟩
  · exact .inl h0
  · exact .inr ⟨g, cap, cur, rfl, hg, hl.blk _ _ hh (fun q => by have := hE _ q; omega) (.inr rfl), r⟩
theorem LOwn.put {B : Nat} {W : World} {v : Value} {l : List Lc} {D : Nat} {o : Obj} (h : LOwn W B v l) (o' : Obj) (hD : W.heap[D]? = some o) (ho : o.isCells = false) : LOwn (W.putObj D o') B v l :=
  LOwn.lets (E := fun _ => False) (B' := 0) h (lets_put o' hD ho (Nat.zero_le _)) (fun _ q => q.elim)
theorem LOwn.set {B : Nat} {W : World} {v : Value} {l : List Lc} {p : Addr} (h : LOwn W B v l) (u : Value) (hp : p.block < B) : LOwn (W.setCell p u) B v l :=
  h.kept fun k e => Below.heap_setCell W p u k (fun q => by have := (h.lt k e).1; omega)

theorem locs_nil (A : Option Addr) (n c : Nat) (w : World) : (binOp .eql 39 (.slice A n c) (.slice none 0 0)).run Try.prog w = .ok (.bool A.isNone) w := by
  simp only [binOp]
  simp [Op.equal, Op.maxDepth, Lib.run_equalIn_slice_nil w 9999 39 44 A n c 0 0 Try.underlying39]
set_option maxRecDepth 100000 in
set_option maxHeartbeats 400000 in
theorem clone_any (A : Option Addr) (c : Nat) (l : List Lc) (w : World) (hc : A = none → c = 0) (hn : l.length ≤ 1099511627776) (h : LLies w w.heap.size A l) :
    Calls Try.prog 44 #[.slice A l.length c] w (MadeLocs w l) := by
  rcases A with _ | ad
  · obtain rfl := hc rfl
    obtain rfl : l = [] := by
      rcases l with _ | ⟨x, l⟩
      · rfl
      · obtain ⟨g, o, e, _⟩ := h (by simp)
        cases e
    have hE := fun w => locs_nil none 0 0 w
    simp only [Option.isNone_none] at hE
    go_enter Try.func44, Try.ntmps44
    go_wp2_with fail
    go_ret
    exact ⟨_, rfl, LOwn.nil _ _, Below.refl _ _⟩
  · have hb0 := below_lnew w (.cells #[] 44)
    have h1 := Lib.hid (h.next hb0)
    have h2 := Lib.hid (lown_empty w)
    have HB0 := Lib.hid hb0
    have hE := fun w => locs_nil (some ad) l.length c w
    simp only [Option.isNone_some] at hE
    clear h hc hb0
    go_enter Try.func44, Try.ntmps44
    go_wp2_with (at_builtin; refine app_locs _ rfl (.tmp 5) (.tmp 6) rfl w.heap.size _ [] rfl h2.out (some ad) c _ l rfl (fun e => by cases e) h1.out (by simp; omega) (by simp) ?_; intro v1 w1 h3 h4)
    go_ret
    exact ⟨v1, rfl, by simpa using h3, below_lgrown HB0.out h4 h2.out (by simp)⟩

/-- is a place within a span? -/
def hasS (pc : Int) (x : Sp) : Bool := decide (x.f ≤ pc) && decide (pc < x.t)
/-- where a variable is -/
def atS (xs : List Sp) (pc : Int) : List Lc := ((xs.find? (hasS pc)).map Sp.a).getD []
theorem prs_snd (ps : List Ps) : (prs ps).map Prod.snd = ps := by
  unfold prs
  rw [List.map_snd_zip]
  simp
def NoneHas (pc : Int) (l : List (Int × Ps)) : Prop := ∀ q ∈ l, hasS pc q.2.sp = false
theorem atS_none {ps : List Ps} {pc : Int} (h : NoneHas pc (prs ps)) : atS (ps.map Ps.sp) pc = [] := by
  unfold atS
  rw [List.find?_eq_none.2]
  · rfl
  · intro x hx
    obtain ⟨p, hp, rfl⟩ := List.mem_map.1 hx
    rw [← prs_snd ps] at hp
    obtain ⟨q, hq, rfl⟩ := List.mem_map.1 hp
    rw [h q hq]
    decide
theorem atS_some {ps : List Ps} {pc : Int} {pre : List (Int × Ps)} {q : Int × Ps} (hn : Nxt (prs ps) pre q) (h : NoneHas pc pre) (hq : hasS pc q.2.sp = true) : atS (ps.map Ps.sp) pc = q.2.a := by
  obtain ⟨h1, h2, h3⟩ := hn.take
  have : prs ps = pre ++ q :: (prs ps).drop (pre.length + 1) := by
    rw [List.append_cons, h1, List.take_append_drop]
  have e : ps.map Ps.sp = (prs ps).map (fun q => q.2.sp) := by
    rw [show (fun q : Int × Ps => q.2.sp) = Ps.sp ∘ Prod.snd from rfl, ← List.map_map, prs_snd]
  unfold atS
  rw [e, this, List.map_append, List.map_cons, List.find?_append, List.find?_eq_none.2 (by
    intro x hx
    obtain ⟨p, hp, rfl⟩ := List.mem_map.1 hx
    rw [h p hp]
    decide), List.find?_cons_of_pos hq]
  rfl

attribute [local go_sem] Oper.semAt_some wideFn wideDepth
set_option maxRecDepth 100000 in
set_option maxHeartbeats 4000000 in
theorem at7_any (A : Option Addr) (c : Nat) (ps : List Ps) (pc : Int) (w : World) (hs : Sm ps) (h : SLies w w.heap.size A ps) :
    Calls Try.prog 22 #[.slice A ps.length c, .int .i64 pc] w (MadeLocs w (atS (ps.map Ps.sp) pc)) := by
  refine calls_loop Try.func22 rfl ?_
  simp only [Try.ntmps22, List.size_toArray, List.length_cons, List.length_nil, Nat.reduceAdd, Nat.reduceSub, Array.replicate_succ, Array.replicate_zero, List.push_toArray, List.append_toArray, List.nil_append, List.cons_append]
  go_wp2_with fail
  refine (inOrder_any A _ c _).mono ?_
  rintro e w1 ⟨rfl, rfl⟩
  obtain ⟨W0, hW0⟩ : ∃ W0, ((w.alloc (.cells #[.int .i64 pc] 3)).alloc (.cells #[.slice none 0 0] 39)).alloc (.cells #[.slice A ps.length c] 23) = W0 := ⟨_, rfl⟩
  have bP := ((Boxed.new w 3 (.int .i64 pc)).alloc (.cells #[.slice none 0 0] 39)).alloc (.cells #[.slice A ps.length c] 23)
  have bR := (Boxed.new (w.alloc (.cells #[.int .i64 pc] 3)) 39 (.slice none 0 0)).alloc (.cells #[.slice A ps.length c] 23)
  have bS := Boxed.new ((w.alloc (.cells #[.int .i64 pc] 3)).alloc (.cells #[.slice none 0 0] 39)) 23 (.slice A ps.length c)
  have hB := (((Below.refl _ w).alloc (Nat.le_refl _) (.cells #[.int .i64 pc] 3)).alloc (by simp) (.cells #[.slice none 0 0] 39)).alloc (by simp; omega) (.cells #[.slice A ps.length c] 23)
  have hz : (((w.alloc (.cells #[.int .i64 pc] 3)).alloc (.cells #[.slice none 0 0] 39)).alloc (.cells #[.slice A ps.length c] 23)).heap.size = w.heap.size + 3 := by simp
  simp only [World.size_alloc] at bR bS
  rw [hW0] at bP bR bS hB hz ⊢
  clear hW0
  simp only [World.size_alloc]
  have HW := Lib.hid h
  have HL := Lib.hid (h.below hB)
  have HB := Lib.hid hB
  have HBR := Lib.hid bR
  have HBP := Lib.hid bP
  have HSm := Lib.hid hs
  have hls : ps.length ≤ 1099511627776 := hs.1
  have hcS := bS.cell
  clear h hB bR bS bP hs
  go_wp2_with fail
  refine range_wp (gf := 50) (lb := #[.pointer (some ⟨w.heap.size + 1 + 1, 0, none⟩)]) rfl (run_enterC Try.func50 (by kernel_rfl) (by kernel_rfl))
    (inOrder_seq (w.heap.size + 1 + 1) w.heap.size c A ps W0 (by omega) hcS HL.out.1 (by omega) hls) (fun _ => rfl) (fun _ q => q.elim) (fun k q => .inl (by omega))
    (fun pre W => ((Boxed W (w.heap.size + 1) 39 (.slice none 0 0) ∧ Boxed W w.heap.size 3 (.int .i64 pc)) ∧ Below w.heap.size w W) ∧ NoneHas pc pre)
    (fun c _ W => (c = .ret ∧ Below w.heap.size w W) ∧ ∃ v, Boxed W (w.heap.size + 1) 39 v ∧ LOwn W w.heap.size v (atS (ps.map Ps.sp) pc))
    (fun s => (((stays_boxed (fun q => q)).and (stays_boxed (fun q => q))).and (stays_below (Nat.le_refl _) (fun _ q => q.elim) (by omega))).and (stays_pure _))
    (fun c s => ((stays_pure _).and (stays_below (Nat.le_refl _) (fun _ q => q.elim) (by omega))).and (fun _ _ hl ⟨v, h1, h2⟩ => ⟨v, Boxed.lets h1 hl (fun q => q), h2.lets hl (fun _ q => q.elim)⟩))
    ⟨⟨⟨HBR.out, HBP.out⟩, HB.out⟩, fun _ q => absurd q (by simp)⟩ ?round ?done ?stop
  case round =>
    rintro l pre q Wr W hzr ⟨⟨⟨hbr, hbp⟩, hbel⟩, hall⟩ hle ⟨⟨⟨hbx, hby⟩, hbel2⟩, _⟩ hnx
    have hp := prs_mem hnx.mem
    have hmn := Lib.hid (HW.out.2 _ hp)
    have hla := HSm.out.2 _ hp
    have hzw := hle.size
    have hb1 := Lib.hid (hbx.alloc (.cells (pK q.2) 46))
    have hy1 := Lib.hid (hby.alloc (.cells (pK q.2) 46))
    have hB1 := Lib.hid (hbel2.alloc (by omega) (.cells (pK q.2) 46))
    have hX1 := Lib.hid (spAt_new W q.2)
    have hS1 := Lib.hid (Same.of_all (K := fun k => k < w.heap.size ∨ Wr.heap.size ≤ k) (below_lnew W (.cells (pK q.2) 46)))
    have HNO := Lib.hid (fun (e : hasS pc q.2.sp = false) => show NoneHas pc (pre ++ [q]) from fun x hx => (List.mem_append.1 hx).elim (hall x) (fun h => by rw [List.mem_singleton] at h; rw [h]; exact e))
    have HYE := Lib.hid (fun (e : hasS pc q.2.sp = true) => atS_some hnx hall e)
    clear hbr hbp hbel hbx hby hbel2 hnx hp hle hall
    obtain ⟨al, f, t, a, A', c'⟩ := q
    simp only [pK] at hb1 hB1 hX1 hS1 hmn hla hy1
    dsimp only at HYE
    have hhs : hasS pc (Ps.sp ⟨f, t, a, A', c'⟩) = (decide (f ≤ pc) && decide (pc < t)) := rfl
    rw [hhs] at HNO HYE
    clear hhs
    obtain ⟨_, hac, hLL⟩ := hmn.out
    have HAC := Lib.hid hac
    have HLL := Lib.hid hLL
    clear hLL hmn hac
    unfold pK
    gi_wp2
    refine ⟨nocs_alloc _ _, hS1.out, fun W2 hl2 hs2 hz2 => ?_⟩
    have hX2 : SpAt W2 W.heap.size ⟨f, t, a, A', c'⟩ := (hl2 (fun _ => False)).blk _ _ hX1.out (fun q => q) (.inr rfl)
    have hb2' := Boxed.lets hb1.out (hl2 (fun _ => False)) (fun q => q)
    have hy2' := Boxed.lets hy1.out (hl2 (fun _ => False)) (fun q => q)
    have hB2' := (hl2 (fun _ => False)).below hB1.out (Nat.le_refl _) (fun _ q => q.elim) (by omega)
    have x0 := hX2.fr
    have x1 := hX2.to
    have x2 := hX2.at_
    have hyc := hy2'.cell
    have HB2 := Lib.hid hb2'
    have HY2 := Lib.hid hy2'
    have HBL2 := Lib.hid hB2'
    have hz3 := hB2'.size
    clear hl2 hX2 hb2' hy2' hB2' hb1 hB1 hX1 hS1 hy1
    dsimp only at x0 x1 x2
    by_cases h1 : f ≤ pc
    · by_cases h2 : pc < t
      · have HC := Lib.hid (clone_any A' c' a W2 HAC.out hla ((HLL.out.below HBL2.out).more (by omega)))
        rw [decide_eq_true h1, decide_eq_true h2] at HYE
        have HE := Lib.hid (HYE.out rfl)
        unfold MadeLocs at HC
        clear HNO HYE
        gi_wp2_with (gi_at_call 44; refine (CallsIn.inRound l (callsIn_wide.2 HC.out)).mono ?_; rintro e W3 ⟨v3, rfl, ho3, hb3⟩; have hb3b := Boxed.below HB2.out hb3 (by omega); have hb3c := hb3b.cell; have hb3f := hb3b.frozen; obtain ⟨A3, n3, c3, rfl, hn3, _⟩ := ho3.formN)
        refine ⟨(Nocs.of_below hb3).trans (nocs_set _ _ _), ⟨rfl, (HBL2.out.trans (hb3.mono hz3)).setCell (p := ⟨w.heap.size + 1, 0, none⟩) (by dsimp only; omega) _⟩, _, Boxed.set _ hb3b, ?_⟩
        rw [HE.out]
        exact (ho3.set _ (by dsimp only; omega)).base hz3
      · have HE := HNO.out (by rw [decide_eq_false h2, Bool.and_false])
        clear HNO HYE
        gi_wp2
        exact ⟨Nocs.refl _, hs2, ⟨⟨HB2.out, HY2.out⟩, HBL2.out⟩, HE⟩
    · have HE := HNO.out (by rw [decide_eq_false h1, Bool.false_and])
      clear HNO HYE
      gi_wp2
      exact ⟨Nocs.refl _, hs2, ⟨⟨HB2.out, HY2.out⟩, HBL2.out⟩, HE⟩
  case done =>
    rintro D xs W hD rfl ⟨⟨⟨hbr, hbp⟩, hbel⟩, hall⟩ hK
    have hc := hbr.cell
    have hf := hbr.frozen
    have hK2 : (W.setCell ⟨w.heap.size + 1, 0, none⟩ (.slice none 0 0)).heap[D]? = some (.deferred (some [])) := (Below.heap_setCell W ⟨w.heap.size + 1, 0, none⟩ (.slice none 0 0) D (by dsimp only; omega)).trans hK
    have hb2 := Boxed.put (Boxed.set (.slice none 0 0) hbr) (.deferred none) hK2 rfl
    go_wp2_with fail
    refine ret_mark hK2 (res_slice rfl Try.underlying39 _ _ (w.heap.size + 1) _ rfl hb2) ⟨_, rfl, ?_, below_put (hbel.setCell (p := ⟨w.heap.size + 1, 0, none⟩) (by dsimp only; omega) _) _ (by omega)⟩
    rw [atS_none hall]
    exact LOwn.nil _ _
  case stop =>
    rintro D c pre W hD ⟨⟨rfl, hbel⟩, v, hbr, ho⟩ hK
    go_wp2_with fail
    exact ret_mark hK (res_slice rfl Try.underlying39 _ _ (w.heap.size + 1) _ rfl (Boxed.put hbr (.deferred none) hK rfl)) ⟨_, rfl, ho.put _ hK rfl, below_put hbel _ (by omega)⟩
end Go.Proofs.Ytggofdahnbchjaa
