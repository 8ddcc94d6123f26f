/-
  Merged for a claim: SYC.
-/
import Derived.Test.YtjllbacefbjjaaaYJ0
namespace Go.Proofs.Ytjllbacefbjjaaa
open Go

structure Ty where
 kd : Int
 n : Int
 nm : List UInt8
def ty0 : Ty := ⟨0, 0, []⟩
inductive St where
 | mk (kd ln : Int) (nm fl cl : List UInt8) (ty : Ty) (ks : List Ex) (bd el : List St)
def St.kd : St → Int | .mk kd _ _ _ _ _ _ _ _ => kd
def St.setB : St → List St → St | .mk kd ln nm fl cl ty ks _ el, b => .mk kd ln nm fl cl ty ks b el
def St.setE : St → List St → St | .mk kd ln nm fl cl ty ks bd _, e => .mk kd ln nm fl cl ty ks bd e
def stm (kd ln : Int) (nm fl cl : List UInt8) (ty : Ty) (ks : List Ex) : St := .mk kd ln nm fl cl ty ks [] []
def wInt : List UInt8 := [105, 110, 116]
def wBool : List UInt8 := [98, 111, 111, 108]
def wIf : List UInt8 := [105, 102]
def wFor : List UInt8 := [102, 111, 114]
def wElse : List UInt8 := [101, 108, 115, 101]
def wVar : List UInt8 := [118, 97, 114]
def wPrint : List UInt8 := [112, 114, 105, 110, 116]
def wReturn : List UInt8 := [114, 101, 116, 117, 114, 110]
def wInput : List UInt8 := [105, 110, 112, 117, 116]
def tyP (u : List To) : R Ty :=
 if isW wInt u = true then .ok ⟨1, 0, []⟩ u.tail
 else if isW wBool u = true then .ok ⟨2, 0, []⟩ u.tail
 else if isS [91] u = true then takeK 2 u.tail fun t v => takeS [93] v fun w => takeW wInt w fun z => .ok ⟨3, t.nu, []⟩ z
 else takeK 1 u fun t v => .ok ⟨4, 0, t.tx⟩ v
def comP {α : Type} (one : List To → R α) : Nat → List To → R (List α)
 | 0, _ => .out
 | n + 1, u => (one u).bind fun x v => if isS [44] v = true then (comP one n v.tail).bind fun l w => .ok (x :: l) w else takeS [41] v fun w => .ok [x] w
def lisP {α : Type} (one : List To → R α) (u : List To) : R (List α) := if isS [41] u = true then .ok [] u.tail else comP one (u.length + 1) u
def argP (u : List To) : R (List Ex) := lisP exP u
def isC (u : List To) : Bool := isK 1 u && isS [40] u.tail
def semi (s : St) (u : List To) : R St := takeS [59] u fun v => .ok s v
def setP (ln : Int) (nm : List UInt8) (u : List To) : R St :=
 if isW wInput u = true then takeS [40] u.tail fun v => takeS [41] v fun w => .ok (stm 9 ln nm [] [] ty0 []) w
 else if isC u = true then (argP u.tail.tail).bind fun l v => .ok (stm 5 ln nm [] (hd u).tx ty0 l) v
 else (exP u).bind fun x v => .ok (stm 2 ln nm [] [] ty0 [x]) v
def nmdP (ln : Int) (u : List To) : R St :=
 if isC u = true then (argP u.tail.tail).bind fun l v => .ok (stm 5 ln [] [] (hd u).tx ty0 l) v
 else takeK 1 u fun t v =>
  if isS [91] v = true then (exP v.tail).bind fun x w => takeS [93] w fun z => takeS [61] z fun y => (exP y).bind fun e q => .ok (stm 3 ln t.tx [] [] ty0 [x, e]) q
  else if isS [46] v = true then takeK 1 v.tail fun f w => takeS [61] w fun z => (exP z).bind fun x q => .ok (stm 4 ln t.tx f.tx [] ty0 [x]) q
  else takeS [61] v fun w => setP ln t.tx w
def varP (ln : Int) (u : List To) : R St :=
 takeK 1 u fun t v => (tyP v).bind fun ty w => if isS [61] w = true then (exP w.tail).bind fun x z => .ok (stm 1 ln t.tx [] [] ty [x]) z else .ok (stm 1 ln t.tx [] [] ty []) w
def hdP (u : List To) : R St :=
 if isW wIf u = true then (exP u.tail).bind fun x v => .ok (stm 6 (hd u).ln [] [] [] ty0 [x]) v
 else if isW wFor u = true then (exP u.tail).bind fun x v => .ok (stm 7 (hd u).ln [] [] [] ty0 [x]) v
 else if isW wVar u = true then (varP (hd u).ln u.tail).bind semi
 else if isW wPrint u = true then takeS [40] u.tail fun v => (exP v).bind fun x w => takeS [41] w fun z => semi (stm 8 (hd u).ln [] [] [] ty0 [x]) z
 else if isW wReturn u = true then (if isS [59] u.tail = true then semi (stm 10 (hd u).ln [] [] [] ty0 []) u.tail else (exP u.tail).bind fun x v => semi (stm 10 (hd u).ln [] [] [] ty0 [x]) v)
 else (nmdP (hd u).ln u).bind semi
mutual
def staP : Nat → List To → R St
 | 0, _ => .out
 | n + 1, u => (hdP u).bind fun s v =>
  if s.kd = 6 then (blkP n v).bind fun b w => if isW wElse w = true then (blkP n w.tail).bind fun e z => .ok ((s.setB b).setE e) z else .ok (s.setB b) w
  else if s.kd = 7 then (blkP n v).bind fun b w => .ok (s.setB b) w
  else .ok s v
def blkP : Nat → List To → R (List St)
 | 0, _ => .out
 | n + 1, u => takeS [123] u fun v => lstP n v
def lstP : Nat → List To → R (List St)
 | 0, _ => .out
 | n + 1, u => if isS [125] u = true then .ok [] u.tail else (staP n u).bind fun s v => (lstP n v).bind fun l w => .ok (s :: l) w
end
theorem takeK_len {α : Type} {kd : Int} {u v : List To} {f : To → List To → R α} {x : α} (h : takeK kd u f = .ok x v) : u ≠ [] ∧ f (hd u) u.tail = .ok x v := by
 unfold takeK at h
 split at h
 · rename_i hs
   exact ⟨isK_ne hs, h⟩
 · cases h
theorem takeW_len {α : Type} {tx : List UInt8} {u v : List To} {f : List To → R α} {x : α} (h : takeW tx u f = .ok x v) : u ≠ [] ∧ f u.tail = .ok x v := by
 unfold takeW at h
 split at h
 · rename_i hs
   exact ⟨isW_ne hs, h⟩
 · cases h
theorem takeS_out {α : Type} {tx : List UInt8} {u : List To} {f : List To → R α} (h : ∀ v, v = u.tail → u ≠ [] → f v ≠ .out) : takeS tx u f ≠ .out := by
 unfold takeS
 split
 · rename_i hs
   exact h _ rfl (isS_ne hs)
 · intro e; cases e
theorem takeW_out {α : Type} {tx : List UInt8} {u : List To} {f : List To → R α} (h : ∀ v, v = u.tail → u ≠ [] → f v ≠ .out) : takeW tx u f ≠ .out := by
 unfold takeW
 split
 · rename_i hs
   exact h _ rfl (isW_ne hs)
 · intro e; cases e
theorem takeK_out {α : Type} {kd : Int} {u : List To} {f : To → List To → R α} (h : ∀ t v, v = u.tail → u ≠ [] → f t v ≠ .out) : takeK kd u f ≠ .out := by
 unfold takeK
 split
 · rename_i hs
   exact h _ _ rfl (isK_ne hs)
 · intro e; cases e
theorem bind_nout {α β : Type} {r : R α} {f : α → List To → R β} (h : r ≠ .out) (h2 : ∀ x v, r = .ok x v → f x v ≠ .out) : r.bind f ≠ .out := by
 rcases r with ⟨x, v⟩ | v | _
 · exact h2 x v rfl
 · intro e; cases e
 · exact absurd rfl h
theorem ok_nout {α : Type} {x : α} {u : List To} : (R.ok x u : R α) ≠ .out := by
 intro e
 cases e
theorem tyP_out (u : List To) : tyP u ≠ .out := by
 unfold tyP
 split
 · exact ok_nout
 · split
   · exact ok_nout
   · split
     · exact takeK_out fun _ _ _ _ => takeS_out fun _ _ _ => takeW_out fun _ _ _ => ok_nout
     · exact takeK_out fun _ _ _ _ => ok_nout
theorem tyP_len {u v : List To} {x : Ty} (h : tyP u = .ok x v) : v.length + 1 ≤ u.length := by
 unfold tyP at h
 split at h
 · rename_i hs
   have := tail_len (isW_ne hs)
   injection h with _ h
   subst h
   omega
 · split at h
   · rename_i hs
     have := tail_len (isW_ne hs)
     injection h with _ h
     subst h
     omega
   · split at h
     · rename_i hs
       have := tail_len (isS_ne hs)
       obtain ⟨h1, h⟩ := takeK_len h
       obtain ⟨h2, h⟩ := takeS_len h
       obtain ⟨h3, h⟩ := takeW_len h
       have := tail_len h1
       have := tail_len h2
       have := tail_len h3
       injection h with _ h
       subst h
       omega
     · obtain ⟨h1, h⟩ := takeK_len h
       have := tail_len h1
       injection h with _ h
       subst h
       omega
section
variable {α : Type} {one : List To → R α} (h0 : ∀ u, one u ≠ .out) (h1 : ∀ u x v, one u = .ok x v → v.length + 1 ≤ u.length)
include h0 h1
theorem comP_all : ∀ n u, (u.length < n → comP one n u ≠ .out) ∧ ∀ l v, comP one n u = .ok l v → v.length + 1 ≤ u.length
 | 0, u => ⟨fun h => absurd h (by omega), fun l v h => (by cases h)⟩
 | n + 1, u => by
  refine ⟨fun hn => ?_, fun l v h => ?_⟩
  · rw [comP]
    refine bind_nout (h0 u) fun x v hx => ?_
    have := h1 _ _ _ hx
    split
    · rename_i hs
      have := tail_len (isS_ne hs)
      exact bind_nout ((comP_all n _).1 (by omega)) fun _ _ _ => ok_nout
    · exact takeS_out fun _ _ _ => ok_nout
  · rw [comP] at h
    obtain ⟨x, w, e1, h⟩ := bind_is h
    have := h1 _ _ _ e1
    split at h
    · rename_i hs
      have := tail_len (isS_ne hs)
      obtain ⟨l2, w2, e2, h⟩ := bind_is h
      have := (comP_all n _).2 _ _ e2
      injection h with _ h
      subst h
      omega
    · obtain ⟨h3, h⟩ := takeS_len h
      have := tail_len h3
      injection h with _ h
      subst h
      omega
theorem lisP_out (u : List To) : lisP one u ≠ .out := by
 unfold lisP
 split
 · exact ok_nout
 · exact (comP_all h0 h1 _ u).1 (Nat.lt_succ_self _)
theorem lisP_len {u v : List To} {l : List α} (h : lisP one u = .ok l v) : v.length + 1 ≤ u.length := by
 unfold lisP at h
 split at h
 · rename_i hs
   have := tail_len (isS_ne hs)
   injection h with _ h
   subst h
   omega
 · exact (comP_all h0 h1 _ u).2 _ _ h
end
theorem argP_out (u : List To) : argP u ≠ .out := lisP_out exP_ne (fun _ _ _ h => exP_len h) u
theorem argP_len {u v : List To} {l : List Ex} (h : argP u = .ok l v) : v.length + 1 ≤ u.length := lisP_len exP_ne (fun _ _ _ h => exP_len h) h
theorem isC_ne {u : List To} (h : isC u = true) : u ≠ [] ∧ u.tail ≠ [] := by
 unfold isC at h
 rw [Bool.and_eq_true] at h
 exact ⟨isK_ne h.1, isS_ne h.2⟩
theorem semi_out (s : St) (u : List To) : semi s u ≠ .out := takeS_out fun _ _ _ => ok_nout
theorem semi_len {s x : St} {u v : List To} (h : semi s u = .ok x v) : v.length + 1 ≤ u.length := by
 obtain ⟨h1, h⟩ := takeS_len h
 have := tail_len h1
 injection h with _ h
 subst h
 omega
theorem setP_out (ln : Int) (nm : List UInt8) (u : List To) : setP ln nm u ≠ .out := by
 unfold setP
 split
 · exact takeS_out fun _ _ _ => takeS_out fun _ _ _ => ok_nout
 · split
   · exact bind_nout (argP_out _) fun _ _ _ => ok_nout
   · exact bind_nout (exP_ne _) fun _ _ _ => ok_nout
theorem setP_len {ln : Int} {nm : List UInt8} {u v : List To} {x : St} (h : setP ln nm u = .ok x v) : v.length ≤ u.length := by
 unfold setP at h
 split at h
 · rename_i hs
   have := tail_len (isW_ne hs)
   obtain ⟨h1, h⟩ := takeS_len h
   obtain ⟨h2, h⟩ := takeS_len h
   have := tail_len h1
   have := tail_len h2
   injection h with _ h
   subst h
   omega
 · split at h
   · rename_i hs
     have := tail_len (isC_ne hs).1
     have := tail_len (isC_ne hs).2
     obtain ⟨l, w, e, h⟩ := bind_is h
     have := argP_len e
     injection h with _ h
     subst h
     omega
   · obtain ⟨l, w, e, h⟩ := bind_is h
     have := exP_len e
     injection h with _ h
     subst h
     omega
theorem nmdP_out (ln : Int) (u : List To) : nmdP ln u ≠ .out := by
 unfold nmdP
 split
 · exact bind_nout (argP_out _) fun _ _ _ => ok_nout
 · refine takeK_out fun t v _ _ => ?_
   split
   · exact bind_nout (exP_ne _) fun _ _ _ => takeS_out fun _ _ _ => takeS_out fun _ _ _ => bind_nout (exP_ne _) fun _ _ _ => ok_nout
   · split
     · exact takeK_out fun _ _ _ _ => takeS_out fun _ _ _ => bind_nout (exP_ne _) fun _ _ _ => ok_nout
     · exact takeS_out fun _ _ _ => setP_out _ _ _
theorem nmdP_len {ln : Int} {u v : List To} {x : St} (h : nmdP ln u = .ok x v) : v.length + 1 ≤ u.length := by
 unfold nmdP at h
 split at h
 · rename_i hs
   have := tail_len (isC_ne hs).1
   have := tail_len (isC_ne hs).2
   obtain ⟨l, w, e, h⟩ := bind_is h
   have := argP_len e
   injection h with _ h
   subst h
   omega
 · obtain ⟨h1, h⟩ := takeK_len h
   have := tail_len h1
   split at h
   · rename_i hs
     have := tail_len (isS_ne hs)
     obtain ⟨x1, w1, e1, h⟩ := bind_is h
     have := exP_len e1
     obtain ⟨h2, h⟩ := takeS_len h
     obtain ⟨h3, h⟩ := takeS_len h
     have := tail_len h2
     have := tail_len h3
     obtain ⟨x2, w2, e2, h⟩ := bind_is h
     have := exP_len e2
     injection h with _ h
     subst h
     omega
   · split at h
     · rename_i hs
       have := tail_len (isS_ne hs)
       obtain ⟨h2, h⟩ := takeK_len h
       obtain ⟨h3, h⟩ := takeS_len h
       have := tail_len h2
       have := tail_len h3
       obtain ⟨x2, w2, e2, h⟩ := bind_is h
       have := exP_len e2
       injection h with _ h
       subst h
       omega
     · obtain ⟨h2, h⟩ := takeS_len h
       have := tail_len h2
       have := setP_len h
       omega
theorem varP_out (ln : Int) (u : List To) : varP ln u ≠ .out := by
 unfold varP
 refine takeK_out fun t v _ _ => bind_nout (tyP_out v) fun ty w _ => ?_
 split
 · exact bind_nout (exP_ne _) fun _ _ _ => ok_nout
 · exact ok_nout
theorem varP_len {ln : Int} {u v : List To} {x : St} (h : varP ln u = .ok x v) : v.length + 1 ≤ u.length := by
 unfold varP at h
 obtain ⟨h1, h⟩ := takeK_len h
 have := tail_len h1
 obtain ⟨ty, w, e, h⟩ := bind_is h
 have := tyP_len e
 split at h
 · rename_i hs
   have := tail_len (isS_ne hs)
   obtain ⟨x2, w2, e2, h⟩ := bind_is h
   have := exP_len e2
   injection h with _ h
   subst h
   omega
 · injection h with _ h
   subst h
   omega
theorem hdP_out (u : List To) : hdP u ≠ .out := by
 unfold hdP
 split
 · exact bind_nout (exP_ne _) fun _ _ _ => ok_nout
 · split
   · exact bind_nout (exP_ne _) fun _ _ _ => ok_nout
   · split
     · exact bind_nout (varP_out _ _) fun _ _ _ => semi_out _ _
     · split
       · exact takeS_out fun _ _ _ => bind_nout (exP_ne _) fun _ _ _ => takeS_out fun _ _ _ => semi_out _ _
       · split
         · split
           · exact semi_out _ _
           · exact bind_nout (exP_ne _) fun _ _ _ => semi_out _ _
         · exact bind_nout (nmdP_out _ _) fun _ _ _ => semi_out _ _
theorem hdP_len {u v : List To} {x : St} (h : hdP u = .ok x v) : v.length + 1 ≤ u.length := by
 unfold hdP at h
 split at h
 · rename_i hs
   have := tail_len (isW_ne hs)
   obtain ⟨x2, w2, e2, h⟩ := bind_is h
   have := exP_len e2
   injection h with _ h
   subst h
   omega
 · split at h
   · rename_i hs
     have := tail_len (isW_ne hs)
     obtain ⟨x2, w2, e2, h⟩ := bind_is h
     have := exP_len e2
     injection h with _ h
     subst h
     omega
   · split at h
     · rename_i hs
       have := tail_len (isW_ne hs)
       obtain ⟨x2, w2, e2, h⟩ := bind_is h
       have := varP_len e2
       have := semi_len h
       omega
     · split at h
       · rename_i hs
         have := tail_len (isW_ne hs)
         obtain ⟨h1, h⟩ := takeS_len h
         have := tail_len h1
         obtain ⟨x2, w2, e2, h⟩ := bind_is h
         have := exP_len e2
         obtain ⟨h2, h⟩ := takeS_len h
         have := tail_len h2
         have := semi_len h
         omega
       · split at h
         · rename_i hs
           have := tail_len (isW_ne hs)
           split at h
           · have := semi_len h
             omega
           · obtain ⟨x2, w2, e2, h⟩ := bind_is h
             have := exP_len e2
             have := semi_len h
             omega
         · obtain ⟨x2, w2, e2, h⟩ := bind_is h
           have := nmdP_len e2
           have := semi_len h
           omega
theorem enoughS : ∀ n, (∀ u, (3 * u.length + 2 ≤ n → staP n u ≠ .out) ∧ ∀ x v, staP n u = .ok x v → v.length + 1 ≤ u.length)
 ∧ (∀ u, (3 * u.length + 1 ≤ n → blkP n u ≠ .out) ∧ ∀ x v, blkP n u = .ok x v → v.length + 2 ≤ u.length)
 ∧ ∀ u, (3 * u.length + 3 ≤ n → lstP n u ≠ .out) ∧ ∀ x v, lstP n u = .ok x v → v.length + 1 ≤ u.length
 | 0 => ⟨fun u => ⟨fun h => absurd h (by omega), fun x v h => (by cases h)⟩, fun u => ⟨fun h => absurd h (by omega), fun x v h => (by cases h)⟩, fun u => ⟨fun h => absurd h (by omega), fun x v h => (by cases h)⟩⟩
 | n + 1 => by
  obtain ⟨hs, hb, hl⟩ := enoughS n
  refine ⟨fun u => ⟨fun hn => ?_, fun x v h => ?_⟩, fun u => ⟨fun hn => ?_, fun x v h => ?_⟩, fun u => ⟨fun hn => ?_, fun x v h => ?_⟩⟩
  · unfold staP
    refine bind_nout (hdP_out u) fun s v e => ?_
    have := hdP_len e
    split
    · refine bind_nout ((hb v).1 (by omega)) fun b w e2 => ?_
      have := (hb v).2 _ _ e2
      split
      · rename_i hw
        have := tail_len (isW_ne hw)
        exact bind_nout ((hb _).1 (by omega)) fun _ _ _ => ok_nout
      · exact ok_nout
    · split
      · exact bind_nout ((hb v).1 (by omega)) fun _ _ _ => ok_nout
      · exact ok_nout
  · unfold staP at h
    obtain ⟨s, w, e, h⟩ := bind_is h
    have := hdP_len e
    split at h
    · obtain ⟨b, w2, e2, h⟩ := bind_is h
      have := (hb _).2 _ _ e2
      split at h
      · rename_i hw
        have := tail_len (isW_ne hw)
        obtain ⟨b3, w3, e3, h⟩ := bind_is h
        have := (hb _).2 _ _ e3
        injection h with _ h
        subst h
        omega
      · injection h with _ h
        subst h
        omega
    · split at h
      · obtain ⟨b, w2, e2, h⟩ := bind_is h
        have := (hb _).2 _ _ e2
        injection h with _ h
        subst h
        omega
      · injection h with _ h
        subst h
        omega
  · unfold blkP
    refine takeS_out fun v e hne => ?_
    have := tail_len hne
    subst e
    exact (hl _).1 (by omega)
  · unfold blkP at h
    obtain ⟨h1, h⟩ := takeS_len h
    have := tail_len h1
    have := (hl _).2 _ _ h
    omega
  · unfold lstP
    split
    · exact ok_nout
    · refine bind_nout ((hs u).1 (by omega)) fun s v e => ?_
      have := (hs u).2 _ _ e
      exact bind_nout ((hl v).1 (by omega)) fun _ _ _ => ok_nout
  · unfold lstP at h
    split at h
    · rename_i hq
      have := tail_len (isS_ne hq)
      injection h with _ h
      subst h
      omega
    · obtain ⟨s, w, e, h⟩ := bind_is h
      have := (hs u).2 _ _ e
      obtain ⟨l, w2, e2, h⟩ := bind_is h
      have := (hl w).2 _ _ e2
      injection h with _ h
      subst h
      omega
end Go.Proofs.Ytjllbacefbjjaaa
