/-
  What the comparisons of two slices of ints answer: the law's other one, slices.Equal, and the check for a prefix. No statement of the seat is proved here.
-/
import Derived.Test.YtkeoefbkeommhaaEq
namespace Go.Proofs.Ytkeoefbkeommhaa
open Go.RowKit

def begB (xs ys : List Int) : Bool := decide (xs.length ≤ ys.length ∧ xs = ys.take xs.length)
theorem begB_long {xs ys : List Int} (h : ¬ xs.length ≤ ys.length) : begB xs ys = false := decide_eq_false fun e => h e.1
theorem begB_short {xs ys : List Int} (h : xs.length ≤ ys.length) : begB xs ys = decide (xs = ys.take xs.length) := by unfold begB; simp [h]
theorem begB_ne {xs ys : List Int} {k : Nat} {x y : Int} (h1 : k < xs.length) (hx : x = xs.getD k 0) (hy : y = ys.getD k 0) (h : x ≠ y) : begB xs ys = false :=
  decide_eq_false fun e => h (by
    have := congrArg (fun l => l.getD k 0) e.2
    simp only [List.getD_eq_getElem?_getD, List.getElem?_take, if_pos h1] at this
    rw [hx, hy]; simpa [List.getD] using this)
theorem begB_end {xs ys : List Int} {k : Nat} (h0 : xs.length ≤ ys.length) (h1 : k ≤ xs.length) (h2 : ¬ k < xs.length) (h : xs.take k = ys.take k) : begB xs ys = true := by
  obtain rfl : k = xs.length := by omega
  rw [List.take_length] at h
  exact decide_eq_true ⟨h0, h⟩

def prefB (xs ys : List Int) : Bool := isS xs && isS ys && begB xs ys

end Go.Proofs.Ytkeoefbkeommhaa
