/-
  Slices of actors of the call's own: what lies in them, marks, marks read. No statement of the seat is proved here.
-/
import Derived.Test.YtkeoefbkeommhaaStA
import Derived.Test.YtkeoefbkeommhaaLawKit
namespace Go.Proofs.Ytkeoefbkeommhaa
open Go.RowKit

theorem cells4s {w : World} {g T : Nat} {u0 u1 u2 u3 : Value} (h : w.heap[g]? = some (.cells #[u0, u1, u2, u3] T)) : w.cell? ⟨g, 0, none⟩ = some u0 ∧ w.cell? ⟨g, 1, none⟩ = some u1 ∧ w.cell? ⟨g, 2, none⟩ = some u2 ∧ w.cell? ⟨g, 3, none⟩ = some u3 := by
  have a := cell_of h 0; have b := cell_of h 1; have c := cell_of h 2; have d := cell_of h 3
  simp at a b c d; exact ⟨a, b, c, d⟩
theorem beqN2 (m n : Nat) : ((m : Int) == (n : Int)) = decide (m = n) := by
  by_cases h : m = n
  · subst h; simp
  · rw [decide_eq_false h, beq_eq_false_iff_ne]; omega
/-- A row of a family is written. -/
theorem Fam.row {lo j : Nat} {w w' : World} {x : Value} {us : List Value} {xss : List (List Int)} {ys : List Int} (hF : Fam lo w us xss)
    (hx : us[j]? = some x) (hg : w.grownBy w' x.ownBlock) (ho : Own lo w' x ys) : Fam lo w' us (xss.set j ys) := by
  have hj := (List.getElem?_eq_some_iff.1 hx).1
  have F := hF.upd (w' := w') hx (fun y ys hy ha => hy.kept hg ha) ho (.inl rfl)
  rwa [show us.set j x = us from by
    apply List.ext_getElem?
    intro i
    rw [List.getElem?_set]
    by_cases e : j = i
    · rw [if_pos e, if_pos hj, ← e, hx]
    · rw [if_neg e]] at F

theorem le_sumA {xs : List Act} {x : Act} (h : x ∈ xs) : x.regs.length ≤ sumA xs := by
  unfold sumA
  have := le_sum (f := fun p : Act => p.regs.length) h
  omega
def mkAc (k : Int) (a : Act) : Act := ⟨k, marks (k + 1) a.regs.length⟩
def stAc (a : Act) : Nat := 1 + a.regs.length
theorem sum_stAc : ∀ xs : List Act, (xs.map stAc).sum = sumA xs
  | [] => by simp [sumA]
  | x :: xs => by
    have := sum_stAc xs
    unfold sumA stAc at *
    rw [List.map_cons, List.sum_cons, List.map_cons, List.sum_cons, List.length_cons]
    omega

end Go.Proofs.Ytkeoefbkeommhaa
