/-
  What MeetStreams leaves, in the program and in its model; and what an append of one token to a slice of the call's own leaves. No statement of the seat is proved here.
-/
import Derived.Test.YtkeoefbkeommhaaPrefix

namespace Go.Proofs.Ytkeoefbkeommhaa
open Go.RowKit

/-! ### MeetStreams -/
def cpn : List Int → List Int → Nat
  | x :: xs, y :: ys => if x = y then cpn xs ys + 1 else 0
  | _, _ => 0
theorem cpn_le : ∀ xs ys : List Int, cpn xs ys ≤ xs.length
  | [], _ => by simp [cpn]
  | _ :: _, [] => by simp [cpn]
  | x :: xs, y :: ys => by
    have := cpn_le xs ys
    unfold cpn
    split
    · simp; omega
    · simp
theorem cpn_of (k : Nat) : ∀ xs ys : List Int, xs.take k = ys.take k → k ≤ xs.length → k ≤ ys.length → (k = xs.length ∨ k = ys.length ∨ xs.getD k 0 ≠ ys.getD k 0) → cpn xs ys = k := by
  induction k with
  | zero =>
    intro xs ys _ _ _ h
    match xs, ys with
    | [], _ => simp [cpn]
    | _ :: _, [] => simp [cpn]
    | x :: xs, y :: ys =>
      simp at h
      simp [cpn, h]
  | succ k ih =>
    intro xs ys he h1 h2 h
    match xs, ys with
    | [], _ => simp at h1
    | _ :: _, [] => simp at h2
    | x :: xs, y :: ys =>
      simp at he h1 h2 h
      obtain ⟨rfl, he⟩ := he
      simp [cpn, ih xs ys he h1 h2 (by simpa using h)]

def meetStreamsR0 (xs ys : List Int) : List Int := if isS xs && isS ys then xs.take (cpn xs ys) else []
theorem meetStreams_len0 (xs ys : List Int) : (meetStreamsR0 xs ys).length ≤ 400 := by
  unfold meetStreamsR0
  split
  · rename_i h; simp at h; have := isS_len h.1; simp; omega
  · simp
theorem meet1 {xs ys : List Int} (h : isS xs = false) : meetStreamsR0 xs ys = [] := by simp [meetStreamsR0, h]
theorem meet2 {xs ys : List Int} (h : isS ys = false) : meetStreamsR0 xs ys = [] := by simp [meetStreamsR0, h]
theorem meet3 {xs ys : List Int} (h : isS xs = true) (k : isS ys = true) : meetStreamsR0 xs ys = xs.take (cpn xs ys) := by simp [meetStreamsR0, h, k]

end Go.Proofs.Ytkeoefbkeommhaa
