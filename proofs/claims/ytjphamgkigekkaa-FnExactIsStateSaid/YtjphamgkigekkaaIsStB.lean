/-
  Whether a state is valid: both answers over values and objects in pairs; small words for the laws over states. No statement of the seat is proved here.
-/
import Derived.Test.YtjphamgkigekkaaIsSt
import Derived.Test.YtjphamgkigekkaaSIsSt
import Derived.Test.YtjphamgkigekkaaNetOpen
namespace Go.Proofs.Ytjphamgkigekkaa
open Go.RowKit

theorem ownH_lo {lo lo' hi : Nat} {w : World} {v : Value} {xs : List Int} (hl : lo' ≤ lo) (h : OwnH lo hi w v xs) : OwnH lo' hi w v xs := ⟨h.1.mono hl, h.2⟩
theorem rowsH_lo {lo lo' hi : Nat} {w : World} {v : Value} {xs : List (List Int)} (hl : lo' ≤ lo) (h : RowsH lo hi w v xs) : RowsH lo' hi w v xs := OutH.mono h hl (Nat.le_refl _)
theorem iisst_w (v : Value) (n : Net) (u : Value) (s : Stt) (w : World) (hv : NetV w v n) (hu : StV w u s) :
    Calls Try.prog 45 #[v, u] w fun e w' => e = .returned (.bool (isStateR0 n s)) ∧ Below w.heap.size w w' := iisst_any v u n s w hv hu
theorem sisst_w (v : Value) (n : Net) (u : Value) (s : Stt) (w : World) (hv : NetV w v n) (hu : StV w u s) :
    Calls Try.prog 43 #[v, u] w fun e w' => e = .returned (.bool (isStateR0 n s)) ∧ Below w.heap.size w w' := sisst_any v u n s w hv hu
end Go.Proofs.Ytjphamgkigekkaa
