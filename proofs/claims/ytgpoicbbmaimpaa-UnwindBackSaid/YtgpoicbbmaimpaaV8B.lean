/-
  Entries that were put are got; small things for UnwindBack.
-/
import Derived.Test.YtgpoicbbmaimpaaU8Z
namespace Go.Proofs.Ytgpoicbbmaimpaa
open Go Go.RowKit

theorem encE_len {a : Int} {y : Sp} (h : y.a.length ≤ 16) : (encE a y).length ≤ 300 := by
  have h1 := size_le false (y.f - a)
  have h2 := size_le false (y.t - y.f)
  have h3 := size_le false y.u
  have h4 := size_le false (y.a.length : Int)
  have h5 := flatW_len y.a
  unfold encE
  simp only [List.length_append, nB_len]
  omega
theorem encA_len : ∀ {l : List Sp} {a b : Int}, okA b l = true → (encA a l).length ≤ 300 * l.length
  | [], _, _, _ => by simp [encA]
  | y :: ys, a, b, h => by
    have h1 := encE_len (a := a) (okA_len h y List.mem_cons_self)
    rw [show okA b (y :: ys) = (okE b y && okA y.t ys) from rfl, Bool.and_eq_true] at h
    have h2 := encA_len (a := y.t) h.2
    rw [show encA a (y :: ys) = encE a y ++ encA y.t ys from rfl, List.length_append, List.length_cons]
    omega
theorem ownS_len {ps : List Ps} (h : rightL (ps.map Ps.sp) = true) : (ownS (ps.map Ps.sp)).length ≤ 1300000 := by
  obtain ⟨h1, _⟩ := rightL_sm h
  unfold rightL at h
  rw [Bool.and_eq_true] at h
  have h2 := encA_len (a := 0) h.2
  have h3 := size_le false ((ps.map Ps.sp).length : Int)
  rw [List.length_map] at h2
  unfold ownS
  rw [List.length_append, nB_len]
  omega
theorem got_put3 {xs : List Sp} (hr : rightL xs = true) (a r : List UInt8) : gotS true (a ++ ownS xs ++ r) a.length = some (xs, a.length + (ownS xs).length) := by
  rw [List.append_assoc]
  exact got_putS true hr a r
theorem Lies.take7 {w : World} {B : Nat} {A : Option Addr} {l : List UInt8} (h : Lies w B A l) (n : Nat) : Lies w B A (l.take n) := fun hl => by
  have hl' : 0 < l.length := by simp at hl; omega
  obtain ⟨g, o, e, hg, hc⟩ := h hl'
  refine ⟨g, o, e, hg, fun j hj => ?_⟩
  have hj' : j < l.length := by simp at hj; omega
  rw [hc j hj']
  simp
theorem copyB7_n (A : Option Addr) (n c : Nat) (l : List UInt8) (w : World) (hl : l.length = n) (hn : n ≤ 1099511627776) (h : Lies w w.heap.size A l) :
    Calls Try.prog 21 #[.slice A n c] w (Made w l) := by subst hl; exact copyBytes_any A c l w hn h
theorem eqB7_n (A A2 : Option Addr) (c c2 B B2 n n2 : Nat) (l : List UInt8) (w : World) (hl : l.length = n) (hl2 : l.length = n2) (hn : n ≤ 1099511627776) (h : Lies w B A l) (h2 : Lies w B2 A2 l) :
    Calls Try.prog 13 #[.slice A n c, .slice A2 n2 c2] w fun e w' => e = .returned (.bool true) ∧ w = w' := by
  have := eqBytes_same A A2 c c2 l w B B2 (by omega) h h2
  subst hl; subst hl2; exact this
theorem get8_n (A : Option Addr) (n c : Nat) (b : List UInt8) (i : Int) (w : World) (hb : b.length = n) (hn : n ≤ 1099511627776) (h : Lies w w.heap.size A b) :
    Calls Try.prog 19 #[.slice A n c, .int .i64 i] w (GetR8 b i w) := by subst hb; exact get8_all A c b i w hn h
theorem rng_sp {ps : List Ps} {xs : List Sp} (e : ps.map Ps.sp = xs) (h : ∀ y ∈ xs, ∀ x ∈ y.a, x.Rng) : ∀ p ∈ ps, ∀ x ∈ p.a, x.Rng := fun p hp => h p.sp (by rw [← e]; exact List.mem_map_of_mem hp)
theorem sp_rng {ps : List Ps} (h : ∀ p ∈ ps, ∀ x ∈ p.a, x.Rng) : ∀ y ∈ ps.map Ps.sp, ∀ x ∈ y.a, x.Rng := fun y hy => by
  obtain ⟨p, hp, rfl⟩ := List.mem_map.1 hy
  exact h p hp
theorem Few.of_sp {ps qs : List Ps} (h : Few ps) (e : qs.map Ps.sp = ps.map Ps.sp) : Few qs := by
  have hl : qs.length = ps.length := by have := congrArg List.length e; simpa using this
  refine ⟨by rw [hl]; exact h.1, fun q hq => ?_⟩
  have : q.sp ∈ ps.map Ps.sp := by rw [← e]; exact List.mem_map_of_mem hq
  obtain ⟨p, hp, e2⟩ := List.mem_map.1 this
  have h2 := h.2 p hp
  have e3 : p.a = q.a := congrArg Sp.a e2
  rw [← e3]
  exact h2
end Go.Proofs.Ytgpoicbbmaimpaa
