/-
  What the two functions WrapToken answer. No statement of the seat is proved here.
-/
import Derived.Test.YtkeoefbkeommhaaBase
namespace Go.Proofs.Ytkeoefbkeommhaa
open Go.RowKit

def wrapT (n : Int) : Int := if 999999 < n.tmod 1999999 then n.tmod 1999999 - 1999999 else if n.tmod 1999999 < -999999 then n.tmod 1999999 + 1999999 else n.tmod 1999999

theorem wrapT_hi {n : Int} (h : 999999 < n.tmod 1999999) : wrapT n = n.tmod 1999999 - 1999999 := by unfold wrapT; rw [if_pos h]
theorem wrapT_lo {n : Int} (h : n.tmod 1999999 < -999999) : wrapT n = n.tmod 1999999 + 1999999 := by unfold wrapT; rw [if_neg (by omega), if_pos h]
theorem wrapT_in {n : Int} (h : n.tmod 1999999 ≤ 999999) (k : -999999 ≤ n.tmod 1999999) : wrapT n = n.tmod 1999999 := by unfold wrapT; rw [if_neg (by omega), if_neg (by omega)]
theorem tmod_bd (n : Int) : -1999998 ≤ n.tmod 1999999 ∧ n.tmod 1999999 ≤ 1999998 := by
  have h := Int.tmod_lt_of_pos n (show (0 : Int) < 1999999 by omega)
  have k := Int.lt_tmod_of_pos n (show (0 : Int) < 1999999 by omega)
  omega
theorem wrapT_bd (n : Int) : -999999 ≤ wrapT n ∧ wrapT n ≤ 999999 := by
  have := tmod_bd n
  unfold wrapT
  split
  · omega
  · split <;> omega

end Go.Proofs.Ytkeoefbkeommhaa
