/-
  What the comparisons of two slices of ints answer: the law's other one, slices.Equal, and the check for a prefix. No statement of the seat is proved here.
  What IsPrefix, JoinStreams, RestOf and AppendStream leave, in the program and in its model. No statement of the seat is proved here.
-/
import Derived.Test.YtkeoefbkeommhaaBas
import Derived.Test.YtkeoefbkeommhaaMlt
namespace Go.Proofs.Ytkeoefbkeommhaa
open Go.RowKit

def begB (xs ys : List Int) : Bool := decide (xs.length ≤ ys.length ∧ xs = ys.take xs.length)
theorem begB_long {xs ys : List Int} (h : ¬ xs.length ≤ ys.length) : begB xs ys = false := decide_eq_false fun e => h e.1
theorem begB_short {xs ys : List Int} (h : xs.length ≤ ys.length) : begB xs ys = decide (xs = ys.take xs.length) := by unfold begB; simp [h]
theorem begB_ne {xs ys : List Int} {k : Nat} {x y : Int} (h1 : k < xs.length) (hx : x = xs.getD k 0) (hy : y = ys.getD k 0) (h : x ≠ y) : begB xs ys = false :=
  decide_eq_false fun e => h (by
    have := congrArg (fun l => l.getD k 0) e.2
    simp only [List.getD_eq_getElem?_getD, List.getElem?_take, if_pos h1] at this
    rw [hx, hy]; simpa [List.getD] using this)
theorem begB_end {xs ys : List Int} {k : Nat} (h0 : xs.length ≤ ys.length) (h1 : k ≤ xs.length) (h2 : ¬ k < xs.length) (h : xs.take k = ys.take k) : begB xs ys = true := by
  obtain rfl : k = xs.length := by omega
  rw [List.take_length] at h
  exact decide_eq_true ⟨h0, h⟩

def prefB (xs ys : List Int) : Bool := isS xs && isS ys && begB xs ys

theorem prefB_parts {xs ys : List Int} (h : prefB xs ys = true) : isS xs = true ∧ isS ys = true ∧ begB xs ys = true := by
  unfold prefB at h; simp at h; exact ⟨h.1.1, h.1.2, h.2⟩
theorem begB_parts {xs ys : List Int} (h : begB xs ys = true) : xs.length ≤ ys.length ∧ xs = ys.take xs.length := of_decide_eq_true h
theorem prefB_len {xs ys : List Int} (h : prefB xs ys = true) : xs.length ≤ 400 ∧ ys.length ≤ 400 ∧ xs.length ≤ ys.length :=
  ⟨isS_len (prefB_parts h).1, isS_len (prefB_parts h).2.1, (begB_parts (prefB_parts h).2.2).1⟩

/-! ### JoinStreams -/
def joinStreamsR0 (xs ys : List Int) : List Int := if prefB xs ys then ys else if prefB ys xs then xs else []
def joinStreamsB (xs ys : List Int) : Bool := prefB xs ys || prefB ys xs
theorem joinStreams_len0 (xs ys : List Int) : (joinStreamsR0 xs ys).length ≤ 400 := by
  unfold joinStreamsR0
  split
  · exact (prefB_len (by assumption)).2.1
  · split
    · exact (prefB_len (by assumption)).2.1
    · simp


theorem join1 {xs ys : List Int} (h : prefB xs ys = true) : joinStreamsR0 xs ys = ys ∧ joinStreamsB xs ys = true := by simp [joinStreamsR0, joinStreamsB, h]
theorem join2 {xs ys : List Int} (h : prefB xs ys = false) (k : prefB ys xs = true) : joinStreamsR0 xs ys = xs ∧ joinStreamsB xs ys = true := by simp [joinStreamsR0, joinStreamsB, h, k]
theorem join3 {xs ys : List Int} (h : prefB xs ys = false) (k : prefB ys xs = false) : joinStreamsR0 xs ys = [] ∧ joinStreamsB xs ys = false := by simp [joinStreamsR0, joinStreamsB, h, k]

/-! ### RestOf -/
def restOfR0 (xs ys : List Int) : List Int := if prefB xs ys then ys.drop xs.length else []
theorem restOf_len0 (xs ys : List Int) : (restOfR0 xs ys).length ≤ 400 := by
  unfold restOfR0
  split
  · have := (prefB_len (by assumption : prefB xs ys = true)).2.1; simp; omega
  · simp
theorem rest1 {xs ys : List Int} (h : prefB xs ys = true) : restOfR0 xs ys = ys.drop xs.length := by simp [restOfR0, h]
theorem rest2 {xs ys : List Int} (h : prefB xs ys = false) : restOfR0 xs ys = [] := by simp [restOfR0, h]
theorem sl_empty (w : World) (a : Option Addr) (cap : Nat) (hc : cap ≤ maxLen) : cap = 0 → Sl w (.slice a 0 cap) [] := fun h => ⟨a, cap, rfl, by simp, hc, fun _ => h, .inl rfl⟩

end Go.Proofs.Ytkeoefbkeommhaa
