/-
  Plain facts on jumps: which are right, and how many bytes they have.
-/
import Derived.Test.YtdapflfbkjoicaaI3I
namespace Go.Proofs.Ytdapflfbkjoicaa

def jI (k r n : Int) : Ins := ⟨k, 0, r, 0, 0, n, 0⟩
def jB (k r n : Int) : Bool := decide ((0 ≤ n ∧ n < 16777216) ∧ (k = 11 → 0 ≤ r ∧ r < 16))
theorem j_right {k r n : Int} (hk : k = 10 ∨ k = 11 ∨ k = 12) (hr : ¬ k = 11 → r = 0) : rightB (jI k r n) = jB k r n := by
  rcases hk with rfl | rfl | rfl
  · obtain rfl := hr (by decide)
    simp [rightB, jI, jB, isK, ptsOf, fitsP, dropAll, dropP]
  · simp [rightB, jI, jB, isK, ptsOf, fitsP, dropAll, dropP, isR]
    rw [Bool.eq_iff_iff]
    simp
    omega
  · obtain rfl := hr (by decide)
    simp [rightB, jI, jB, isK, ptsOf, fitsP, dropAll, dropP]
theorem j_third {k r n : Int} (hk : k = 10 ∨ k = 11 ∨ k = 12) : rightB ⟨k, 0, r, 0, 1, n, 0⟩ = false := by
  rcases hk with rfl | rfl | rfl <;> simp [rightB, isK, ptsOf, fitsP, dropAll, dropP]
theorem j_size {k r n : Int} (hk : k = 10 ∨ k = 11 ∨ k = 12) (hr : rightB (jI k r n) = true) : (ownB (jI k r n)).length = if k = 11 then 5 else 4 := by
  unfold ownB
  rw [if_pos hr]
  rcases hk with rfl | rfl | rfl <;> simp [jI, ptsOf, bytesP, plB]
theorem j_rng {k r n : Int} (hk : k = 10 ∨ k = 11 ∨ k = 12) (r0 : -9223372036854775808 ≤ r) (r1 : r < 9223372036854775808) (n0 : -9223372036854775808 ≤ n) (n1 : n < 9223372036854775808) : (jI k r n).Rng := by
  constructor <;> simp only [jI] <;> omega

end Go.Proofs.Ytdapflfbkjoicaa
