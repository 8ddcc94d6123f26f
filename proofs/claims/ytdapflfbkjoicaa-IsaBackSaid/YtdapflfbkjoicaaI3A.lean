/-
  Instructions as data: their parts, which may be, their bytes, and what is got: plain.
-/
import Derived.Test.YtdapflfbkjoicaaL2C
namespace Go.Proofs.Ytdapflfbkjoicaa

/-- an instruction -/
structure Ins where
  k : Int
  o : Int
  r : Int
  s : Int
  t : Int
  n : Int
  m : Int
deriving DecidableEq

/-- what the program's types let it be -/
structure Ins.Rng (i : Ins) : Prop where
  k0 : 0 ≤ i.k
  k1 : i.k < 256
  o0 : 0 ≤ i.o
  o1 : i.o < 256
  r0 : -9223372036854775808 ≤ i.r
  r1 : i.r < 9223372036854775808
  s0 : -9223372036854775808 ≤ i.s
  s1 : i.s < 9223372036854775808
  t0 : -9223372036854775808 ≤ i.t
  t1 : i.t < 9223372036854775808
  n0 : -9223372036854775808 ≤ i.n
  n1 : i.n < 9223372036854775808
  m0 : -9223372036854775808 ≤ i.m
  m1 : i.m < 9223372036854775808

inductive Pt where
  | op | reg | both | third | num | many | to | how
deriving DecidableEq

def isR (x : Int) : Bool := decide (0 ≤ x ∧ x < 16)
/-- is what a part says within its bounds? -/
def fitsP : Pt → Ins → Bool
  | .op, i => if i.k = 5 then decide (i.o = 14 ∨ i.o = 15) else decide (1 ≤ i.o ∧ i.o ≤ 13)
  | .reg, i => isR i.r
  | .both, i => isR i.r && isR i.s
  | .third, i => isR i.t
  | .num, i => decide (i.k = 2 ∨ (-65536 ≤ i.n ∧ i.n ≤ 65536))
  | .many, i => decide (1 ≤ i.m ∧ i.m ≤ 65536)
  | .to, i => decide (0 ≤ i.n ∧ i.n < 16777216)
  | .how, i => decide (2 ≤ i.n ∧ i.n ≤ 4)
def dropP : Pt → Ins → Ins
  | .op, i => { i with o := 0 }
  | .reg, i => { i with r := 0 }
  | .both, i => { i with r := 0, s := 0 }
  | .third, i => { i with t := 0 }
  | .num, i => { i with n := 0 }
  | .many, i => { i with m := 0 }
  | .to, i => { i with n := 0 }
  | .how, i => { i with n := 0 }

/-- the parts of a kind -/
def ptsOf (k : Int) : List Pt :=
  if k = 2 then [.reg, .num] else if k = 3 then [.both] else if k = 4 then [.op, .both, .third] else if k = 5 then [.op, .both]
  else if k = 6 ∨ k = 7 then [.both, .num] else if k = 8 ∨ k = 9 then [.both, .third, .num, .many] else if k = 10 ∨ k = 12 then [.to]
  else if k = 11 then [.reg, .to] else if k = 14 then [.num] else if k = 15 ∨ k = 16 ∨ k = 17 then [.reg] else if k = 18 then [.how] else []
def isK (k : Int) : Bool := decide (1 ≤ k ∧ k ≤ 18)

end Go.Proofs.Ytdapflfbkjoicaa
