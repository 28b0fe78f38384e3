/-
  What a slice of ints that came in reads as. No statement of the seat is proved here.
-/
import Derived.Test.YtkeoefbkeommhaaOpen
import Derived.OpenShut
namespace Go.Proofs.Ytkeoefbkeommhaa
open Go.ChangeShapes Go.WideShapes Go.ChangeAt Go.RowKit

section
variable {H : Type} {enc : TypeId × Value → H} {w : World} {base : Nat} {spare : Nat → Bool} {held : Bool}
set_option maxRecDepth 100000 in
theorem open_rowL {v : Value} {d : DataW H} {p : List MemPlace} {r : _} {b2 : Nat} (hok : Value.okWide Try.prog w r b2 26 v) (h : DataW.Trod enc Try.prog w base spare held 26 v d p) : ∃ xs, Sl w v xs := by
  obtain ⟨a, len, cap, rfl⟩ := okWide_slice Try.underlying26 hok
  obtain ⟨fuel, h⟩ := h
  obtain ⟨c, xs, e, hs⟩ := open_intsL h
  simp only [Value.cells, List.cons.injEq, and_true] at e
  subst e
  exact ⟨xs, hs⟩
end
end Go.Proofs.Ytkeoefbkeommhaa
