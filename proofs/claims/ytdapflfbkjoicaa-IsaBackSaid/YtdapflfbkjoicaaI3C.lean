/-
  Contracts of what each part puts behind bytes of the call's own.
-/
import Derived.Test.YtdapflfbkjoicaaI3B
import Derived.Test.YtdapflfbkjoicaaL2D
import Derived.Test.YtdapflfbkjoicaaO1P
namespace Go.Proofs.Ytdapflfbkjoicaa
open Go.RowKit

/-- a part's bytes -/
def bytesP : Pt → Ins → List UInt8
  | .op, i => [UInt8.ofNat i.o.toNat]
  | .reg, i => [UInt8.ofNat i.r.toNat]
  | .both, i => [UInt8.ofNat (i.r * 16 + i.s).toNat]
  | .third, i => [UInt8.ofNat i.t.toNat]
  | .num, i => nB true i.n
  | .many, i => nB false i.m
  | .to, i => plB i.n.toNat
  | .how, i => [UInt8.ofNat i.n.toNat]

def PutsR (p : Pt) (i : Ins) (v : Value) (l : List UInt8) (B : Nat) (w : World) (e : Ending) (w' : World) : Prop :=
  ∃ v', e = .returned v' ∧ Own w' B v' (l ++ bytesP p i) ∧ w.grownBy w' v.ownBlock

theorem bytesP_len (p : Pt) (i : Ins) : (bytesP p i).length ≤ 10 := by
  cases p <;> simp [bytesP, nB_len, size_le, plB]

theorem byte_box (w : World) (o : Obj) (z : Int) (h0 : 0 ≤ z) (h1 : z < 256) : Lies ((w.alloc o).alloc (.cells #[.int .u8 z] 5)) ((w.alloc o).alloc (.cells #[.int .u8 z] 5)).heap.size (some ⟨w.heap.size + 1, 0, none⟩) [UInt8.ofNat z.toNat] := by
  have := lies_lit (w.alloc o) 5 [UInt8.ofNat z.toNat] #[.int .u8 z] (by
    have h : ((UInt8.ofNat z.toNat).toNat : Int) = z := by simp; omega
    simp only [List.map_cons, List.map_nil, b8, h])
  simpa using this
theorem grown_below {w w' : World} (h : Below w.heap.size w w') (row : Option Nat) : w.grownBy w' row := ⟨h.os, h.tape, h.output, h.size, fun k hk _ => h.block k hk⟩
theorem grown_boxes {w w' : World} {o o2 : Obj} {row : Option Nat} (h : ((w.alloc o).alloc o2).grownBy w' row) : w.grownBy w' row :=
  ((grown_below (below_box2 w o o2) row).trans h)
theorem grown_box {w w' : World} {o : Obj} {row : Option Nat} (h : (w.alloc o).grownBy w' row) : w.grownBy w' row :=
  ((grown_below (below_box w o) row).trans h)

set_option maxRecDepth 100000 in
set_option maxHeartbeats 400000 in
theorem put_reg (i : Ins) (v : Value) (l : List UInt8) (B : Nat) (w : World) (_hr : i.Rng) (hf : fitsP .reg i = true) (ho : Own w B v l) (hB : B ≤ w.heap.size) (hn : l.length ≤ 1099511627776) :
    Calls Try.prog 62 #[v, iv i] w (PutsR .reg i v l B w) := by
  have h : 0 ≤ i.r ∧ i.r < 16 := of_decide_eq_true hf
  have HE := Lib.hid (byte_box w (.cells (ic i) 24) (i.r) (by omega) (by omega))
  clear hf
  unfold iv ic
  go_enter Try.func62, Try.ntmps62
  go_wp2_with (at_builtin; refine app_slice _ rfl (.tmp 5) (.tmp 9) rfl B _ l rfl ((ho.alloc _).alloc _) (some ⟨w.heap.size + 1, 0, none⟩) 1 _ [UInt8.ofNat (i.r).toNat] rfl (by simp) HE.out (by simp; omega) (by simp; omega) ?_; intro v3 w3 ho3 hg3)
  go_ret
  exact ⟨v3, rfl, ho3, grown_boxes hg3⟩
set_option maxRecDepth 100000 in
set_option maxHeartbeats 400000 in
theorem put_third (i : Ins) (v : Value) (l : List UInt8) (B : Nat) (w : World) (_hr : i.Rng) (hf : fitsP .third i = true) (ho : Own w B v l) (hB : B ≤ w.heap.size) (hn : l.length ≤ 1099511627776) :
    Calls Try.prog 82 #[v, iv i] w (PutsR .third i v l B w) := by
  have h : 0 ≤ i.t ∧ i.t < 16 := of_decide_eq_true hf
  have HE := Lib.hid (byte_box w (.cells (ic i) 24) (i.t) (by omega) (by omega))
  clear hf
  unfold iv ic
  go_enter Try.func82, Try.ntmps82
  go_wp2_with (at_builtin; refine app_slice _ rfl (.tmp 5) (.tmp 9) rfl B _ l rfl ((ho.alloc _).alloc _) (some ⟨w.heap.size + 1, 0, none⟩) 1 _ [UInt8.ofNat (i.t).toNat] rfl (by simp) HE.out (by simp; omega) (by simp; omega) ?_; intro v3 w3 ho3 hg3)
  go_ret
  exact ⟨v3, rfl, ho3, grown_boxes hg3⟩
set_option maxRecDepth 100000 in
set_option maxHeartbeats 400000 in
theorem put_how (i : Ins) (v : Value) (l : List UInt8) (B : Nat) (w : World) (_hr : i.Rng) (hf : fitsP .how i = true) (ho : Own w B v l) (hB : B ≤ w.heap.size) (hn : l.length ≤ 1099511627776) :
    Calls Try.prog 96 #[v, iv i] w (PutsR .how i v l B w) := by
  have h : 2 ≤ i.n ∧ i.n ≤ 4 := of_decide_eq_true hf
  have HE := Lib.hid (byte_box w (.cells (ic i) 24) (i.n) (by omega) (by omega))
  clear hf
  unfold iv ic
  go_enter Try.func96, Try.ntmps96
  go_wp2_with (at_builtin; refine app_slice _ rfl (.tmp 5) (.tmp 9) rfl B _ l rfl ((ho.alloc _).alloc _) (some ⟨w.heap.size + 1, 0, none⟩) 1 _ [UInt8.ofNat (i.n).toNat] rfl (by simp) HE.out (by simp; omega) (by simp; omega) ?_; intro v3 w3 ho3 hg3)
  go_ret
  exact ⟨v3, rfl, ho3, grown_boxes hg3⟩
set_option maxRecDepth 100000 in
set_option maxHeartbeats 400000 in
theorem put_op (i : Ins) (v : Value) (l : List UInt8) (B : Nat) (w : World) (hr : i.Rng) (_hf : fitsP .op i = true) (ho : Own w B v l) (hB : B ≤ w.heap.size) (hn : l.length ≤ 1099511627776) :
    Calls Try.prog 78 #[v, iv i] w (PutsR .op i v l B w) := by
  have h0 := hr.o0
  have h1 := hr.o1
  have HE := Lib.hid (byte_box w (.cells (ic i) 24) (i.o) (by omega) (by omega))
  clear _hf
  unfold iv ic
  go_enter Try.func78, Try.ntmps78
  go_wp2_with (at_builtin; refine app_slice _ rfl (.tmp 5) (.tmp 8) rfl B _ l rfl ((ho.alloc _).alloc _) (some ⟨w.heap.size + 1, 0, none⟩) 1 _ [UInt8.ofNat (i.o).toNat] rfl (by simp) HE.out (by simp; omega) (by simp; omega) ?_; intro v3 w3 ho3 hg3)
  go_ret
  exact ⟨v3, rfl, ho3, grown_boxes hg3⟩
set_option maxRecDepth 100000 in
set_option maxHeartbeats 400000 in
theorem put_both (i : Ins) (v : Value) (l : List UInt8) (B : Nat) (w : World) (_ : i.Rng) (hf : fitsP .both i = true) (ho : Own w B v l) (hB : B ≤ w.heap.size) (hn : l.length ≤ 1099511627776) :
    Calls Try.prog 72 #[v, iv i] w (PutsR .both i v l B w) := by
  have hf' : isR i.r = true ∧ isR i.s = true := by simpa [fitsP] using hf
  have h1 : 0 ≤ i.r ∧ i.r < 16 := of_decide_eq_true hf'.1
  have h2 : 0 ≤ i.s ∧ i.s < 16 := of_decide_eq_true hf'.2
  have HE := Lib.hid (byte_box w (.cells (ic i) 24) (i.r * 16 + i.s) (by omega) (by omega))
  have hp := fun w => pair_any i.r i.s w
  have hb : pairB i.r i.s = true := by simp [pairB]; omega
  have hv : pairV i.r i.s = i.r * 16 + i.s := by simp [pairV, hb]
  rw [hb, hv] at hp
  have HP := Lib.hid hp
  clear hf hf' hp hb hv
  unfold iv ic
  go_enter Try.func72, Try.ntmps72
  go_wp2_with (first
    | (go_at_call 73; refine (HP.out _).mono ?_; rintro e w' ⟨rfl, rfl⟩)
    | (at_builtin; refine app_slice _ rfl (.tmp 15) (.tmp 17) rfl B _ l rfl ((ho.alloc _).alloc _) (some ⟨w.heap.size + 1, 0, none⟩) 1 _ [UInt8.ofNat (i.r * 16 + i.s).toNat] rfl (by simp) HE.out (by simp; omega) (by simp; omega) ?_; intro v3 w3 ho3 hg3))
  go_ret
  exact ⟨v3, rfl, ho3, grown_boxes hg3⟩
set_option maxRecDepth 100000 in
set_option maxHeartbeats 400000 in
theorem put_num (i : Ins) (v : Value) (l : List UInt8) (B : Nat) (w : World) (hr : i.Rng) (_hf : fitsP .num i = true) (ho : Own w B v l) (hB : B ≤ w.heap.size) (hn : l.length ≤ 1099511627776) :
    Calls Try.prog 66 #[v, iv i] w (PutsR .num i v l B w) := by
  have h0 := hr.n0
  have h1 := hr.n1
  obtain ⟨A, c, rfl, _, hA, hL⟩ := (ho.alloc (.cells (ic i) 24)).form
  have HP := Lib.hid (putS_any A c l i.n (w.alloc (.cells (ic i) 24)) hA hL hn h0 h1)
  clear _hf hA hL ho
  unfold iv ic
  go_enter Try.func66, Try.ntmps66
  go_wp2_with (go_at_call 67; refine HP.out.mono ?_; rintro e w' ⟨v', rfl, ho', hb', hc'⟩; clear hc')
  go_ret
  exact ⟨v', rfl, ho'.base (by simp; omega), grown_box (grown_below hb' _)⟩
set_option maxRecDepth 100000 in
set_option maxHeartbeats 400000 in
theorem put_many (i : Ins) (v : Value) (l : List UInt8) (B : Nat) (w : World) (_hr : i.Rng) (hf : fitsP .many i = true) (ho : Own w B v l) (hB : B ≤ w.heap.size) (hn : l.length ≤ 1099511627776) :
    Calls Try.prog 86 #[v, iv i] w (PutsR .many i v l B w) := by
  have h : 1 ≤ i.m ∧ i.m ≤ 65536 := of_decide_eq_true hf
  obtain ⟨A, c, rfl, _, hA, hL⟩ := (ho.alloc (.cells (ic i) 24)).form
  have HP := Lib.hid (putU_any A c l i.m (w.alloc (.cells (ic i) 24)) hA hL hn (by omega) (by omega))
  clear hf hA hL ho
  unfold iv ic
  go_enter Try.func86, Try.ntmps86
  go_wp2_with (go_at_call 87; refine HP.out.mono ?_; rintro e w' ⟨v', rfl, ho', hb', hc'⟩; clear hc')
  go_ret
  exact ⟨v', rfl, ho'.base (by simp; omega), grown_box (grown_below hb' _)⟩
set_option maxRecDepth 100000 in
set_option maxHeartbeats 400000 in
theorem put_to (i : Ins) (v : Value) (l : List UInt8) (B : Nat) (w : World) (_ : i.Rng) (hf : fitsP .to i = true) (ho : Own w B v l) (hB : B ≤ w.heap.size) (hn : l.length ≤ 1099511627776) :
    Calls Try.prog 91 #[v, iv i] w (PutsR .to i v l B w) := by
  have h : 0 ≤ i.n ∧ i.n < 16777216 := of_decide_eq_true hf
  obtain ⟨A, c, rfl, _, hA, hL⟩ := (ho.alloc (.cells (ic i) 24)).form
  have hp := putPlace_any A c l i.n (w.alloc (.cells (ic i) 24)) hA hL hn
  rw [show ppL l i.n = l ++ plB i.n.toNat from by simp [ppL, h], show ppE i.n = 0 from by simp [ppE, h]] at hp
  have HP := Lib.hid hp
  clear hf hA hL ho hp
  unfold iv ic
  go_enter Try.func91, Try.ntmps91
  go_wp2_with (go_at_call 92; refine HP.out.mono ?_; rintro e w' ⟨v', rfl, ho', hb'⟩)
  go_ret
  exact ⟨v', rfl, ho'.base (by simp; omega), grown_box (grown_below hb' _)⟩

theorem put_any (p : Pt) (i : Ins) (v : Value) (l : List UInt8) (B : Nat) (w : World) (hr : i.Rng) (hf : fitsP p i = true) (ho : Own w B v l) (hB : B ≤ w.heap.size) (hn : l.length ≤ 1099511627776) :
    Calls Try.prog (pF p) #[v, iv i] w (PutsR p i v l B w) := by
  cases p
  · exact put_op i v l B w hr hf ho hB hn
  · exact put_reg i v l B w hr hf ho hB hn
  · exact put_both i v l B w hr hf ho hB hn
  · exact put_third i v l B w hr hf ho hB hn
  · exact put_num i v l B w hr hf ho hB hn
  · exact put_many i v l B w hr hf ho hB hn
  · exact put_to i v l B w hr hf ho hB hn
  · exact put_how i v l B w hr hf ho hB hn

end Go.Proofs.Ytdapflfbkjoicaa
