/-
  What the two functions WrapToken answer. No statement of the seat is proved here.
-/
import Derived.Test.YtmfagmfclehdbaaBase
namespace Go.Proofs.Ytmfagmfclehdbaa
open Go.RowKit

def wrapT (n : Int) : Int := if 999999 < n.tmod 1999999 then n.tmod 1999999 - 1999999 else if n.tmod 1999999 < -999999 then n.tmod 1999999 + 1999999 else n.tmod 1999999

theorem wrapT_hi {n : Int} (h : 999999 < n.tmod 1999999) : wrapT n = n.tmod 1999999 - 1999999 := by unfold wrapT; rw [if_pos h]
theorem wrapT_lo {n : Int} (h : n.tmod 1999999 < -999999) : wrapT n = n.tmod 1999999 + 1999999 := by unfold wrapT; rw [if_neg (by omega), if_pos h]
theorem wrapT_in {n : Int} (h : n.tmod 1999999 ≤ 999999) (k : -999999 ≤ n.tmod 1999999) : wrapT n = n.tmod 1999999 := by unfold wrapT; rw [if_neg (by omega), if_neg (by omega)]
theorem tmod_bd (n : Int) : -1999998 ≤ n.tmod 1999999 ∧ n.tmod 1999999 ≤ 1999998 := by
  have h := Int.tmod_lt_of_pos n (show (0 : Int) < 1999999 by omega)
  have k := Int.lt_tmod_of_pos n (show (0 : Int) < 1999999 by omega)
  omega
theorem wrapT_bd (n : Int) : -999999 ≤ wrapT n ∧ wrapT n ≤ 999999 := by
  have := tmod_bd n
  unfold wrapT
  split
  · omega
  · split <;> omega

set_option maxHeartbeats 400000 in
theorem iwrap_any (n : Int) (w : World) :
    Calls Try.prog 153 #[.int .i64 n] w fun e w' => e = .returned (.int .i64 (wrapT n)) ∧ w = w' := by
  have hb := tmod_bd n
  have h1 := @wrapT_hi n
  have h2 := @wrapT_lo n
  have h3 := @wrapT_in n
  generalize wrapT n = r at *
  by_cases c1 : 999999 < n.tmod 1999999
  · have e := h1 c1
    clear h1 h2 h3
    subst e
    go_enter Try.func153, Try.ntmps153
    go_wp2
    go_ret
    exact ⟨rfl, rfl⟩
  · by_cases c2 : n.tmod 1999999 < -999999
    · have e := h2 c2
      clear h1 h2 h3
      subst e
      go_enter Try.func153, Try.ntmps153
      go_wp2
      go_ret
      exact ⟨rfl, rfl⟩
    · have e := h3 (by omega) (by omega)
      clear h1 h2 h3
      subst e
      go_enter Try.func153, Try.ntmps153
      go_wp2
      go_ret
      exact ⟨rfl, rfl⟩

end Go.Proofs.Ytmfagmfclehdbaa
