/-
  Merged for a claim: SYB, SYC.
-/
import Derived.Test.YtjllbacefbjjaaaZJ0
namespace Go.Proofs.Ytjllbacefbjjaaa
open Go

inductive Ha where
 | un (op : List UInt8)
 | par
 | elem (nm : List UInt8)
 | bin (op : List UInt8) (x : Ex) (b : Nat)
namespace Ha
def fin : Ha → Ex → Ex
 | .un op, y => eUn op y
 | .par, y => y
 | .elem nm, y => eElem nm y
 | .bin op x _, y => eBin op x y
def b : Ha → Nat
 | .un _ => 6
 | .par => 0
 | .elem _ => 0
 | .bin _ _ b => b
def en : Ha → List UInt8
 | .par => [41]
 | .elem _ => [93]
 | _ => []
def ends (h : Ha) (u : List To) : Bool := if h.en = [] then decide (bndU u ≤ h.b) else isS h.en u
def rest (h : Ha) (u : List To) : List To := if h.en = [] then u else u.tail
end Ha
def topB (o : List Ha) : Nat := match o with
 | [] => 0
 | h :: _ => h.b
def endsL : List Ha → Ex → List To → Ex × List Ha × List To
 | [], x, u => (x, [], u)
 | h :: o, x, u => if h.ends u = true then endsL o (h.fin x) (h.rest u) else (x, h :: o, u)
def mach : Nat → List Ha → List To → R Ex
 | 0, _, _ => .out
 | n + 1, o, u =>
  if isU u = true then mach n (.un (hd u).tx :: o) u.tail
  else if isS [40] u = true then mach n (.par :: o) u.tail
  else if isE u = true then mach n (.elem (hd u).tx :: o) u.tail.tail
  else (leafP u).bind fun x v =>
   if bndU (endsL o x v).2.2 = 0 then (if (endsL o x v).2.1 = [] then .ok (endsL o x v).1 (endsL o x v).2.2 else .bad (endsL o x v).2.2)
   else mach n (.bin (hd (endsL o x v).2.2).tx (endsL o x v).1 (bndU (endsL o x v).2.2) :: (endsL o x v).2.1) (endsL o x v).2.2.tail
theorem rest_len (h : Ha) (u : List To) : (h.rest u).length ≤ u.length := by
 unfold Ha.rest
 split
 · exact Nat.le_refl _
 · simp
theorem endsL_len (o : List Ha) : ∀ (x : Ex) (u : List To), (endsL o x u).2.2.length ≤ u.length := by
 induction o with
 | nil => exact fun _ _ => Nat.le_refl _
 | cons h o ih =>
  intro x u
  unfold endsL
  split
  · exact Nat.le_trans (ih _ _) (rest_len h u)
  · exact Nat.le_refl _
theorem bndU_pos {u : List To} (h : ¬ bndU u = 0) : u ≠ [] := by
 rintro rfl
 exact h rfl
theorem mach_more : ∀ (n m : Nat) (o : List Ha) (u : List To), u.length + 1 ≤ n → u.length + 1 ≤ m → mach n o u = mach m o u
 | 0, _, _, _, h, _ => absurd h (by omega)
 | _ + 1, 0, _, _, _, h => absurd h (by omega)
 | n + 1, m + 1, o, u, hn, hm => by
  unfold mach
  split
  · rename_i hu
    have := tail_len (isU_ne hu)
    exact mach_more n m _ _ (by omega) (by omega)
  · split
    · rename_i hu
      have := tail_len (isS_ne hu)
      exact mach_more n m _ _ (by omega) (by omega)
    · split
      · rename_i hu
        have := tail_len (isE_ne hu).1
        have := tail_len (isE_ne hu).2
        exact mach_more n m _ _ (by omega) (by omega)
      · rcases hl : leafP u with ⟨x, v⟩ | v | _
        · rw [R.bind_ok, R.bind_ok]
          split
          · rfl
          · rename_i hb
            have := leafP_len hl
            have := endsL_len o x v
            have := tail_len (bndU_pos hb)
            exact mach_more n m _ _ (by omega) (by omega)
        · rfl
        · rfl
def M (o : List Ha) (u : List To) : R Ex := mach (u.length + 1) o u
def Af (o : List Ha) (x : Ex) (v : List To) : R Ex :=
 if bndU (endsL o x v).2.2 = 0 then (if (endsL o x v).2.1 = [] then .ok (endsL o x v).1 (endsL o x v).2.2 else .bad (endsL o x v).2.2)
 else M (.bin (hd (endsL o x v).2.2).tx (endsL o x v).1 (bndU (endsL o x v).2.2) :: (endsL o x v).2.1) (endsL o x v).2.2.tail
theorem M_eq (o : List Ha) (u : List To) : M o u =
 if isU u = true then M (.un (hd u).tx :: o) u.tail
 else if isS [40] u = true then M (.par :: o) u.tail
 else if isE u = true then M (.elem (hd u).tx :: o) u.tail.tail
 else (leafP u).bind (Af o) := by
 unfold M
 rw [mach]
 split
 · rename_i hu
   have := tail_len (isU_ne hu)
   exact mach_more _ _ _ _ (by omega) (by omega)
 · split
   · rename_i hu
     have := tail_len (isS_ne hu)
     exact mach_more _ _ _ _ (by omega) (by omega)
   · split
     · rename_i hu
       have := tail_len (isE_ne hu).1
       have := tail_len (isE_ne hu).2
       exact mach_more _ _ _ _ (by omega) (by omega)
     · rcases hl : leafP u with ⟨x, v⟩ | v | _
       · rw [R.bind_ok, R.bind_ok]
         unfold Af M
         split
         · rfl
         · rename_i hb
           have := leafP_len hl
           have := endsL_len o x v
           have := tail_len (bndU_pos hb)
           exact mach_more _ _ _ _ (by omega) (by omega)
       · rfl
       · rfl
theorem Af_pop {h : Ha} {o : List Ha} {x : Ex} {v : List To} (he : h.ends v = true) : Af (h :: o) x v = Af o (h.fin x) (h.rest v) := by
 unfold Af
 have e : endsL (h :: o) x v = endsL o (h.fin x) (h.rest v) := by rw [endsL, if_pos he]
 rw [e]
theorem Af_stay {o : List Ha} {x : Ex} {v : List To} (he : ∀ h o', o = h :: o' → h.ends v = false) :
 Af o x v = if bndU v = 0 then (if o = [] then .ok x v else .bad v) else M (.bin (hd v).tx x (bndU v) :: o) v.tail := by
 have e : endsL o x v = (x, o, v) := by
  cases o with
  | nil => rfl
  | cons h o => rw [endsL, if_neg (by rw [he h o rfl]; decide)]
 unfold Af
 rw [e]
theorem bndU_le (u : List To) : bndU u ≤ 5 := by
 unfold bndU bnd
 repeat' split
 all_goals omega
theorem bndU_sign {u : List To} {s : List UInt8} (h : isS s u = true) (hb : bnd s = 0) : bndU u = 0 := by
 cases u with
 | nil => cases h
 | cons t v =>
  unfold isS isT at h
  simp only [Bool.and_eq_true, decide_eq_true_eq] at h
  unfold bndU
  split
  · show bnd t.tx = 0
    rw [h.2]
    exact hb
  · rfl
theorem lev_next : ∀ n, (∀ k u x v, k ≤ 5 → lev n k u = .ok x v → bndU v ≤ k) ∧ ∀ k y u x v, k < 5 → bndU u ≤ k + 1 → lop n k y u = .ok x v → bndU v ≤ k
 | 0 => ⟨fun k u x v _ h => (by cases h), fun k y u x v _ _ h => (by cases h)⟩
 | n + 1 => by
  obtain ⟨hl, ho⟩ := lev_next n
  refine ⟨fun k u x v hk h => ?_, fun k y u x v hk hu h => ?_⟩
  · unfold lev at h
    split at h
    · have := bndU_le v
      omega
    · obtain ⟨y, w, h1, h2⟩ := bind_is h
      exact ho k y w x v (by omega) (hl _ _ _ _ (by omega) h1) h2
  · unfold lop at h
    split at h
    · obtain ⟨z, w, h1, h2⟩ := bind_is h
      exact ho k _ w x v hk (hl _ _ _ _ (by omega) h1) h2
    · injection h with _ h
      subst h
      omega
theorem mach_lev : ∀ n, (∀ u o, prim n u ≠ .out → M o u = (prim n u).bind (Af o))
 ∧ (∀ k u o, k ≤ 5 → topB o ≤ k → lev n k u ≠ .out → M o u = (lev n k u).bind (Af o))
 ∧ ∀ k x u o, k < 5 → topB o ≤ k → lop n k x u ≠ .out → Af o x u = (lop n k x u).bind (Af o)
 | 0 => ⟨fun u o h => absurd rfl h, fun k u o _ _ h => absurd rfl h, fun k x u o _ _ h => absurd rfl h⟩
 | n + 1 => by
  obtain ⟨hp, hl, ho⟩ := mach_lev n
  refine ⟨fun u o h => ?_, fun k u o hk ht h => ?_, fun k x u o hk ht h => ?_⟩
  · unfold prim at h ⊢
    rw [M_eq]
    split at h
    · rename_i hu
      rw [if_pos hu, if_pos hu, hp _ _ (R.bind_ne h), R.bind_assoc]
      congr 1
      funext x v
      exact Af_pop (h := .un _) (decide_eq_true (show bndU v ≤ 6 by have := bndU_le v; omega))
    · rename_i hu
      rw [if_neg hu, if_neg hu]
      split at h
      · rename_i hs
        rw [if_pos hs, if_pos hs, hl 0 _ _ (by omega) (Nat.le_refl _) (R.bind_ne h), R.bind_assoc]
        rcases hr : lev n 0 u.tail with ⟨x, v⟩ | v | _
        · rw [R.bind_ok, R.bind_ok]
          have hb := (lev_next n).1 _ _ _ _ (by omega) hr
          unfold takeS
          split
          · rename_i hc
            exact Af_pop (h := .par) hc
          · rename_i hc
            rw [Af_stay (fun h o' e => by injection e with e _; subst e; exact Bool.eq_false_iff.2 hc), if_pos (by omega), if_neg (by simp)]
            rfl
        · rfl
        · rfl
      · rename_i hs
        rw [if_neg hs, if_neg hs]
        split at h
        · rename_i he
          rw [if_pos he, if_pos he, hl 0 _ _ (by omega) (Nat.le_refl _) (R.bind_ne h), R.bind_assoc]
          rcases hr : lev n 0 u.tail.tail with ⟨x, v⟩ | v | _
          · rw [R.bind_ok, R.bind_ok]
            have hb := (lev_next n).1 _ _ _ _ (by omega) hr
            unfold takeS
            split
            · rename_i hc
              exact Af_pop (h := .elem _) hc
            · rename_i hc
              rw [Af_stay (fun h o' e => by injection e with e _; subst e; exact Bool.eq_false_iff.2 hc), if_pos (by omega), if_neg (by simp)]
              rfl
          · rfl
          · rfl
        · rename_i he
          rw [if_neg he, if_neg he]
  · unfold lev at h ⊢
    split at h
    · rename_i h5
      rw [if_pos h5]
      exact hp _ _ h
    · rename_i h5
      rw [if_neg h5, hl (k + 1) u o (by omega) (by omega) (R.bind_ne h), R.bind_assoc]
      rcases hr : lev n (k + 1) u with ⟨x, v⟩ | v | _
      · rw [hr] at h
        rw [R.bind_ok, R.bind_ok]
        exact ho k x v o (by omega) ht h
      · rfl
      · rfl
  · unfold lop at h ⊢
    split at h
    · rename_i hb
      rw [if_pos hb, Af_stay, if_neg (by omega), hb, hl (k + 1) _ _ (by omega) (Nat.le_refl _) (R.bind_ne h), R.bind_assoc]
      · rcases hr : lev n (k + 1) u.tail with ⟨y, v⟩ | v | _
        · rw [hr] at h
          rw [R.bind_ok, R.bind_ok, ← ho k _ v o hk ht h]
          have h1 := (lev_next n).1 _ _ _ _ (by omega) hr
          exact Af_pop (h := .bin _ _ _) (decide_eq_true (show bndU v ≤ k + 1 from h1))
        · rfl
        · rfl
      · intro h9 o' e
        subst e
        rcases h9 with op | _ | nm | ⟨op, y, b⟩
        · exact absurd (show 6 ≤ k from ht) (by omega)
        · exact Bool.eq_false_iff.2 fun hc => by have := bndU_sign (s := [41]) hc rfl; omega
        · exact Bool.eq_false_iff.2 fun hc => by have := bndU_sign (s := [93]) hc rfl; omega
        · exact decide_eq_false (show ¬ bndU u ≤ b by have h8 : b ≤ k := ht; omega)
    · rename_i hb
      rw [if_neg hb]
      rfl
def exP (u : List To) : R Ex := lev (8 * u.length + 8) 0 u
theorem exP_ne (u : List To) : exP u ≠ .out := ((enough _).2.1 0 u).1 (by omega) (by omega) (by omega)
theorem exP_len {u v : List To} {x : Ex} (h : exP u = .ok x v) : v.length + 1 ≤ u.length := ((enough _).2.1 0 u).2 _ _ h
theorem M_exP (u : List To) : M [] u = exP u := by
 rw [(mach_lev (8 * u.length + 8)).2.1 0 u [] (by omega) (Nat.le_refl _) (exP_ne u)]
 show (exP u).bind _ = exP u
 rcases hr : exP u with ⟨x, v⟩ | v | _
 · rw [R.bind_ok]
   have hb := (lev_next _).1 _ _ _ _ (by omega) hr
   rw [Af_stay (fun h o' e => by cases e), if_pos (by omega), if_pos rfl]
 · rfl
 · rfl
end Go.Proofs.Ytjllbacefbjjaaa

namespace Go.Proofs.Ytjllbacefbjjaaa
open Go

structure Ty where
 kd : Int
 n : Int
 nm : List UInt8
def ty0 : Ty := ⟨0, 0, []⟩
inductive St where
 | mk (kd ln : Int) (nm fl cl : List UInt8) (ty : Ty) (ks : List Ex) (bd el : List St)
def St.kd : St → Int | .mk kd _ _ _ _ _ _ _ _ => kd
def St.setB : St → List St → St | .mk kd ln nm fl cl ty ks _ el, b => .mk kd ln nm fl cl ty ks b el
def St.setE : St → List St → St | .mk kd ln nm fl cl ty ks bd _, e => .mk kd ln nm fl cl ty ks bd e
def stm (kd ln : Int) (nm fl cl : List UInt8) (ty : Ty) (ks : List Ex) : St := .mk kd ln nm fl cl ty ks [] []
def wInt : List UInt8 := [105, 110, 116]
def wBool : List UInt8 := [98, 111, 111, 108]
def wIf : List UInt8 := [105, 102]
def wFor : List UInt8 := [102, 111, 114]
def wElse : List UInt8 := [101, 108, 115, 101]
def wVar : List UInt8 := [118, 97, 114]
def wPrint : List UInt8 := [112, 114, 105, 110, 116]
def wReturn : List UInt8 := [114, 101, 116, 117, 114, 110]
def wInput : List UInt8 := [105, 110, 112, 117, 116]
def tyP (u : List To) : R Ty :=
 if isW wInt u = true then .ok ⟨1, 0, []⟩ u.tail
 else if isW wBool u = true then .ok ⟨2, 0, []⟩ u.tail
 else if isS [91] u = true then takeK 2 u.tail fun t v => takeS [93] v fun w => takeW wInt w fun z => .ok ⟨3, t.nu, []⟩ z
 else takeK 1 u fun t v => .ok ⟨4, 0, t.tx⟩ v
def comP {α : Type} (one : List To → R α) : Nat → List To → R (List α)
 | 0, _ => .out
 | n + 1, u => (one u).bind fun x v => if isS [44] v = true then (comP one n v.tail).bind fun l w => .ok (x :: l) w else takeS [41] v fun w => .ok [x] w
def lisP {α : Type} (one : List To → R α) (u : List To) : R (List α) := if isS [41] u = true then .ok [] u.tail else comP one (u.length + 1) u
def argP (u : List To) : R (List Ex) := lisP exP u
def isC (u : List To) : Bool := isK 1 u && isS [40] u.tail
def semi (s : St) (u : List To) : R St := takeS [59] u fun v => .ok s v
def setP (ln : Int) (nm : List UInt8) (u : List To) : R St :=
 if isW wInput u = true then takeS [40] u.tail fun v => takeS [41] v fun w => .ok (stm 9 ln nm [] [] ty0 []) w
 else if isC u = true then (argP u.tail.tail).bind fun l v => .ok (stm 5 ln nm [] (hd u).tx ty0 l) v
 else (exP u).bind fun x v => .ok (stm 2 ln nm [] [] ty0 [x]) v
def nmdP (ln : Int) (u : List To) : R St :=
 if isC u = true then (argP u.tail.tail).bind fun l v => .ok (stm 5 ln [] [] (hd u).tx ty0 l) v
 else takeK 1 u fun t v =>
  if isS [91] v = true then (exP v.tail).bind fun x w => takeS [93] w fun z => takeS [61] z fun y => (exP y).bind fun e q => .ok (stm 3 ln t.tx [] [] ty0 [x, e]) q
  else if isS [46] v = true then takeK 1 v.tail fun f w => takeS [61] w fun z => (exP z).bind fun x q => .ok (stm 4 ln t.tx f.tx [] ty0 [x]) q
  else takeS [61] v fun w => setP ln t.tx w
def varP (ln : Int) (u : List To) : R St :=
 takeK 1 u fun t v => (tyP v).bind fun ty w => if isS [61] w = true then (exP w.tail).bind fun x z => .ok (stm 1 ln t.tx [] [] ty [x]) z else .ok (stm 1 ln t.tx [] [] ty []) w
def hdP (u : List To) : R St :=
 if isW wIf u = true then (exP u.tail).bind fun x v => .ok (stm 6 (hd u).ln [] [] [] ty0 [x]) v
 else if isW wFor u = true then (exP u.tail).bind fun x v => .ok (stm 7 (hd u).ln [] [] [] ty0 [x]) v
 else if isW wVar u = true then (varP (hd u).ln u.tail).bind semi
 else if isW wPrint u = true then takeS [40] u.tail fun v => (exP v).bind fun x w => takeS [41] w fun z => semi (stm 8 (hd u).ln [] [] [] ty0 [x]) z
 else if isW wReturn u = true then (if isS [59] u.tail = true then semi (stm 10 (hd u).ln [] [] [] ty0 []) u.tail else (exP u.tail).bind fun x v => semi (stm 10 (hd u).ln [] [] [] ty0 [x]) v)
 else (nmdP (hd u).ln u).bind semi
mutual
def staP : Nat → List To → R St
 | 0, _ => .out
 | n + 1, u => (hdP u).bind fun s v =>
  if s.kd = 6 then (blkP n v).bind fun b w => if isW wElse w = true then (blkP n w.tail).bind fun e z => .ok ((s.setB b).setE e) z else .ok (s.setB b) w
  else if s.kd = 7 then (blkP n v).bind fun b w => .ok (s.setB b) w
  else .ok s v
def blkP : Nat → List To → R (List St)
 | 0, _ => .out
 | n + 1, u => takeS [123] u fun v => lstP n v
def lstP : Nat → List To → R (List St)
 | 0, _ => .out
 | n + 1, u => if isS [125] u = true then .ok [] u.tail else (staP n u).bind fun s v => (lstP n v).bind fun l w => .ok (s :: l) w
end
theorem takeK_len {α : Type} {kd : Int} {u v : List To} {f : To → List To → R α} {x : α} (h : takeK kd u f = .ok x v) : u ≠ [] ∧ f (hd u) u.tail = .ok x v := by
 unfold takeK at h
 split at h
 · rename_i hs
   exact ⟨isK_ne hs, h⟩
 · cases h
theorem takeW_len {α : Type} {tx : List UInt8} {u v : List To} {f : List To → R α} {x : α} (h : takeW tx u f = .ok x v) : u ≠ [] ∧ f u.tail = .ok x v := by
 unfold takeW at h
 split at h
 · rename_i hs
   exact ⟨isW_ne hs, h⟩
 · cases h
theorem takeS_out {α : Type} {tx : List UInt8} {u : List To} {f : List To → R α} (h : ∀ v, v = u.tail → u ≠ [] → f v ≠ .out) : takeS tx u f ≠ .out := by
 unfold takeS
 split
 · rename_i hs
   exact h _ rfl (isS_ne hs)
 · intro e; cases e
theorem takeW_out {α : Type} {tx : List UInt8} {u : List To} {f : List To → R α} (h : ∀ v, v = u.tail → u ≠ [] → f v ≠ .out) : takeW tx u f ≠ .out := by
 unfold takeW
 split
 · rename_i hs
   exact h _ rfl (isW_ne hs)
 · intro e; cases e
theorem takeK_out {α : Type} {kd : Int} {u : List To} {f : To → List To → R α} (h : ∀ t v, v = u.tail → u ≠ [] → f t v ≠ .out) : takeK kd u f ≠ .out := by
 unfold takeK
 split
 · rename_i hs
   exact h _ _ rfl (isK_ne hs)
 · intro e; cases e
theorem bind_nout {α β : Type} {r : R α} {f : α → List To → R β} (h : r ≠ .out) (h2 : ∀ x v, r = .ok x v → f x v ≠ .out) : r.bind f ≠ .out := by
 rcases r with ⟨x, v⟩ | v | _
 · exact h2 x v rfl
 · intro e; cases e
 · exact absurd rfl h
theorem ok_nout {α : Type} {x : α} {u : List To} : (R.ok x u : R α) ≠ .out := by
 intro e
 cases e
theorem tyP_out (u : List To) : tyP u ≠ .out := by
 unfold tyP
 split
 · exact ok_nout
 · split
   · exact ok_nout
   · split
     · exact takeK_out fun _ _ _ _ => takeS_out fun _ _ _ => takeW_out fun _ _ _ => ok_nout
     · exact takeK_out fun _ _ _ _ => ok_nout
theorem tyP_len {u v : List To} {x : Ty} (h : tyP u = .ok x v) : v.length + 1 ≤ u.length := by
 unfold tyP at h
 split at h
 · rename_i hs
   have := tail_len (isW_ne hs)
   injection h with _ h
   subst h
   omega
 · split at h
   · rename_i hs
     have := tail_len (isW_ne hs)
     injection h with _ h
     subst h
     omega
   · split at h
     · rename_i hs
       have := tail_len (isS_ne hs)
       obtain ⟨h1, h⟩ := takeK_len h
       obtain ⟨h2, h⟩ := takeS_len h
       obtain ⟨h3, h⟩ := takeW_len h
       have := tail_len h1
       have := tail_len h2
       have := tail_len h3
       injection h with _ h
       subst h
       omega
     · obtain ⟨h1, h⟩ := takeK_len h
       have := tail_len h1
       injection h with _ h
       subst h
       omega
section
variable {α : Type} {one : List To → R α} (h0 : ∀ u, one u ≠ .out) (h1 : ∀ u x v, one u = .ok x v → v.length + 1 ≤ u.length)
include h0 h1
theorem comP_all : ∀ n u, (u.length < n → comP one n u ≠ .out) ∧ ∀ l v, comP one n u = .ok l v → v.length + 1 ≤ u.length
 | 0, u => ⟨fun h => absurd h (by omega), fun l v h => (by cases h)⟩
 | n + 1, u => by
  refine ⟨fun hn => ?_, fun l v h => ?_⟩
  · rw [comP]
    refine bind_nout (h0 u) fun x v hx => ?_
    have := h1 _ _ _ hx
    split
    · rename_i hs
      have := tail_len (isS_ne hs)
      exact bind_nout ((comP_all n _).1 (by omega)) fun _ _ _ => ok_nout
    · exact takeS_out fun _ _ _ => ok_nout
  · rw [comP] at h
    obtain ⟨x, w, e1, h⟩ := bind_is h
    have := h1 _ _ _ e1
    split at h
    · rename_i hs
      have := tail_len (isS_ne hs)
      obtain ⟨l2, w2, e2, h⟩ := bind_is h
      have := (comP_all n _).2 _ _ e2
      injection h with _ h
      subst h
      omega
    · obtain ⟨h3, h⟩ := takeS_len h
      have := tail_len h3
      injection h with _ h
      subst h
      omega
theorem lisP_out (u : List To) : lisP one u ≠ .out := by
 unfold lisP
 split
 · exact ok_nout
 · exact (comP_all h0 h1 _ u).1 (Nat.lt_succ_self _)
theorem lisP_len {u v : List To} {l : List α} (h : lisP one u = .ok l v) : v.length + 1 ≤ u.length := by
 unfold lisP at h
 split at h
 · rename_i hs
   have := tail_len (isS_ne hs)
   injection h with _ h
   subst h
   omega
 · exact (comP_all h0 h1 _ u).2 _ _ h
end
theorem argP_out (u : List To) : argP u ≠ .out := lisP_out exP_ne (fun _ _ _ h => exP_len h) u
theorem argP_len {u v : List To} {l : List Ex} (h : argP u = .ok l v) : v.length + 1 ≤ u.length := lisP_len exP_ne (fun _ _ _ h => exP_len h) h
theorem isC_ne {u : List To} (h : isC u = true) : u ≠ [] ∧ u.tail ≠ [] := by
 unfold isC at h
 rw [Bool.and_eq_true] at h
 exact ⟨isK_ne h.1, isS_ne h.2⟩
theorem semi_out (s : St) (u : List To) : semi s u ≠ .out := takeS_out fun _ _ _ => ok_nout
theorem semi_len {s x : St} {u v : List To} (h : semi s u = .ok x v) : v.length + 1 ≤ u.length := by
 obtain ⟨h1, h⟩ := takeS_len h
 have := tail_len h1
 injection h with _ h
 subst h
 omega
theorem setP_out (ln : Int) (nm : List UInt8) (u : List To) : setP ln nm u ≠ .out := by
 unfold setP
 split
 · exact takeS_out fun _ _ _ => takeS_out fun _ _ _ => ok_nout
 · split
   · exact bind_nout (argP_out _) fun _ _ _ => ok_nout
   · exact bind_nout (exP_ne _) fun _ _ _ => ok_nout
theorem setP_len {ln : Int} {nm : List UInt8} {u v : List To} {x : St} (h : setP ln nm u = .ok x v) : v.length ≤ u.length := by
 unfold setP at h
 split at h
 · rename_i hs
   have := tail_len (isW_ne hs)
   obtain ⟨h1, h⟩ := takeS_len h
   obtain ⟨h2, h⟩ := takeS_len h
   have := tail_len h1
   have := tail_len h2
   injection h with _ h
   subst h
   omega
 · split at h
   · rename_i hs
     have := tail_len (isC_ne hs).1
     have := tail_len (isC_ne hs).2
     obtain ⟨l, w, e, h⟩ := bind_is h
     have := argP_len e
     injection h with _ h
     subst h
     omega
   · obtain ⟨l, w, e, h⟩ := bind_is h
     have := exP_len e
     injection h with _ h
     subst h
     omega
theorem nmdP_out (ln : Int) (u : List To) : nmdP ln u ≠ .out := by
 unfold nmdP
 split
 · exact bind_nout (argP_out _) fun _ _ _ => ok_nout
 · refine takeK_out fun t v _ _ => ?_
   split
   · exact bind_nout (exP_ne _) fun _ _ _ => takeS_out fun _ _ _ => takeS_out fun _ _ _ => bind_nout (exP_ne _) fun _ _ _ => ok_nout
   · split
     · exact takeK_out fun _ _ _ _ => takeS_out fun _ _ _ => bind_nout (exP_ne _) fun _ _ _ => ok_nout
     · exact takeS_out fun _ _ _ => setP_out _ _ _
theorem nmdP_len {ln : Int} {u v : List To} {x : St} (h : nmdP ln u = .ok x v) : v.length + 1 ≤ u.length := by
 unfold nmdP at h
 split at h
 · rename_i hs
   have := tail_len (isC_ne hs).1
   have := tail_len (isC_ne hs).2
   obtain ⟨l, w, e, h⟩ := bind_is h
   have := argP_len e
   injection h with _ h
   subst h
   omega
 · obtain ⟨h1, h⟩ := takeK_len h
   have := tail_len h1
   split at h
   · rename_i hs
     have := tail_len (isS_ne hs)
     obtain ⟨x1, w1, e1, h⟩ := bind_is h
     have := exP_len e1
     obtain ⟨h2, h⟩ := takeS_len h
     obtain ⟨h3, h⟩ := takeS_len h
     have := tail_len h2
     have := tail_len h3
     obtain ⟨x2, w2, e2, h⟩ := bind_is h
     have := exP_len e2
     injection h with _ h
     subst h
     omega
   · split at h
     · rename_i hs
       have := tail_len (isS_ne hs)
       obtain ⟨h2, h⟩ := takeK_len h
       obtain ⟨h3, h⟩ := takeS_len h
       have := tail_len h2
       have := tail_len h3
       obtain ⟨x2, w2, e2, h⟩ := bind_is h
       have := exP_len e2
       injection h with _ h
       subst h
       omega
     · obtain ⟨h2, h⟩ := takeS_len h
       have := tail_len h2
       have := setP_len h
       omega
theorem varP_out (ln : Int) (u : List To) : varP ln u ≠ .out := by
 unfold varP
 refine takeK_out fun t v _ _ => bind_nout (tyP_out v) fun ty w _ => ?_
 split
 · exact bind_nout (exP_ne _) fun _ _ _ => ok_nout
 · exact ok_nout
theorem varP_len {ln : Int} {u v : List To} {x : St} (h : varP ln u = .ok x v) : v.length + 1 ≤ u.length := by
 unfold varP at h
 obtain ⟨h1, h⟩ := takeK_len h
 have := tail_len h1
 obtain ⟨ty, w, e, h⟩ := bind_is h
 have := tyP_len e
 split at h
 · rename_i hs
   have := tail_len (isS_ne hs)
   obtain ⟨x2, w2, e2, h⟩ := bind_is h
   have := exP_len e2
   injection h with _ h
   subst h
   omega
 · injection h with _ h
   subst h
   omega
theorem hdP_out (u : List To) : hdP u ≠ .out := by
 unfold hdP
 split
 · exact bind_nout (exP_ne _) fun _ _ _ => ok_nout
 · split
   · exact bind_nout (exP_ne _) fun _ _ _ => ok_nout
   · split
     · exact bind_nout (varP_out _ _) fun _ _ _ => semi_out _ _
     · split
       · exact takeS_out fun _ _ _ => bind_nout (exP_ne _) fun _ _ _ => takeS_out fun _ _ _ => semi_out _ _
       · split
         · split
           · exact semi_out _ _
           · exact bind_nout (exP_ne _) fun _ _ _ => semi_out _ _
         · exact bind_nout (nmdP_out _ _) fun _ _ _ => semi_out _ _
theorem hdP_len {u v : List To} {x : St} (h : hdP u = .ok x v) : v.length + 1 ≤ u.length := by
 unfold hdP at h
 split at h
 · rename_i hs
   have := tail_len (isW_ne hs)
   obtain ⟨x2, w2, e2, h⟩ := bind_is h
   have := exP_len e2
   injection h with _ h
   subst h
   omega
 · split at h
   · rename_i hs
     have := tail_len (isW_ne hs)
     obtain ⟨x2, w2, e2, h⟩ := bind_is h
     have := exP_len e2
     injection h with _ h
     subst h
     omega
   · split at h
     · rename_i hs
       have := tail_len (isW_ne hs)
       obtain ⟨x2, w2, e2, h⟩ := bind_is h
       have := varP_len e2
       have := semi_len h
       omega
     · split at h
       · rename_i hs
         have := tail_len (isW_ne hs)
         obtain ⟨h1, h⟩ := takeS_len h
         have := tail_len h1
         obtain ⟨x2, w2, e2, h⟩ := bind_is h
         have := exP_len e2
         obtain ⟨h2, h⟩ := takeS_len h
         have := tail_len h2
         have := semi_len h
         omega
       · split at h
         · rename_i hs
           have := tail_len (isW_ne hs)
           split at h
           · have := semi_len h
             omega
           · obtain ⟨x2, w2, e2, h⟩ := bind_is h
             have := exP_len e2
             have := semi_len h
             omega
         · obtain ⟨x2, w2, e2, h⟩ := bind_is h
           have := nmdP_len e2
           have := semi_len h
           omega
theorem enoughS : ∀ n, (∀ u, (3 * u.length + 2 ≤ n → staP n u ≠ .out) ∧ ∀ x v, staP n u = .ok x v → v.length + 1 ≤ u.length)
 ∧ (∀ u, (3 * u.length + 1 ≤ n → blkP n u ≠ .out) ∧ ∀ x v, blkP n u = .ok x v → v.length + 2 ≤ u.length)
 ∧ ∀ u, (3 * u.length + 3 ≤ n → lstP n u ≠ .out) ∧ ∀ x v, lstP n u = .ok x v → v.length + 1 ≤ u.length
 | 0 => ⟨fun u => ⟨fun h => absurd h (by omega), fun x v h => (by cases h)⟩, fun u => ⟨fun h => absurd h (by omega), fun x v h => (by cases h)⟩, fun u => ⟨fun h => absurd h (by omega), fun x v h => (by cases h)⟩⟩
 | n + 1 => by
  obtain ⟨hs, hb, hl⟩ := enoughS n
  refine ⟨fun u => ⟨fun hn => ?_, fun x v h => ?_⟩, fun u => ⟨fun hn => ?_, fun x v h => ?_⟩, fun u => ⟨fun hn => ?_, fun x v h => ?_⟩⟩
  · unfold staP
    refine bind_nout (hdP_out u) fun s v e => ?_
    have := hdP_len e
    split
    · refine bind_nout ((hb v).1 (by omega)) fun b w e2 => ?_
      have := (hb v).2 _ _ e2
      split
      · rename_i hw
        have := tail_len (isW_ne hw)
        exact bind_nout ((hb _).1 (by omega)) fun _ _ _ => ok_nout
      · exact ok_nout
    · split
      · exact bind_nout ((hb v).1 (by omega)) fun _ _ _ => ok_nout
      · exact ok_nout
  · unfold staP at h
    obtain ⟨s, w, e, h⟩ := bind_is h
    have := hdP_len e
    split at h
    · obtain ⟨b, w2, e2, h⟩ := bind_is h
      have := (hb _).2 _ _ e2
      split at h
      · rename_i hw
        have := tail_len (isW_ne hw)
        obtain ⟨b3, w3, e3, h⟩ := bind_is h
        have := (hb _).2 _ _ e3
        injection h with _ h
        subst h
        omega
      · injection h with _ h
        subst h
        omega
    · split at h
      · obtain ⟨b, w2, e2, h⟩ := bind_is h
        have := (hb _).2 _ _ e2
        injection h with _ h
        subst h
        omega
      · injection h with _ h
        subst h
        omega
  · unfold blkP
    refine takeS_out fun v e hne => ?_
    have := tail_len hne
    subst e
    exact (hl _).1 (by omega)
  · unfold blkP at h
    obtain ⟨h1, h⟩ := takeS_len h
    have := tail_len h1
    have := (hl _).2 _ _ h
    omega
  · unfold lstP
    split
    · exact ok_nout
    · refine bind_nout ((hs u).1 (by omega)) fun s v e => ?_
      have := (hs u).2 _ _ e
      exact bind_nout ((hl v).1 (by omega)) fun _ _ _ => ok_nout
  · unfold lstP at h
    split at h
    · rename_i hq
      have := tail_len (isS_ne hq)
      injection h with _ h
      subst h
      omega
    · obtain ⟨s, w, e, h⟩ := bind_is h
      have := (hs u).2 _ _ e
      obtain ⟨l, w2, e2, h⟩ := bind_is h
      have := (hl w).2 _ _ e2
      injection h with _ h
      subst h
      omega
end Go.Proofs.Ytjllbacefbjjaaa
