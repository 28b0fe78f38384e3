/-
  The walk of the law on WrapToken: it answers true and leaves the world as it was.
-/
import Derived.Test.YthlpgpgfdfnofaaWrap
namespace Go.Proofs.Ythlpgpgfdfnofaa
open Go.RowKit

set_option maxHeartbeats 400000 in
theorem fnExactWrapToken_walk (n : Int) (_h : (Lit.int .i64 n).wf = true) (w : World) :
    Calls Try.prog 6 #[.int .i64 n] w fun e w' => e = .returned (.bool true) ∧ w = w' := by
  go_enter Try.func6, Try.ntmps6
  go_wp2_with (first | (go_at_call 32; refine (swrap_any _ _).mono ?_; rintro e w' ⟨rfl, rfl⟩) | (go_at_call 16; refine (iwrap_any _ _).mono ?_; rintro e w' ⟨rfl, rfl⟩))
  go_ret
  exact ⟨rfl, rfl⟩
end Go.Proofs.Ythlpgpgfdfnofaa
