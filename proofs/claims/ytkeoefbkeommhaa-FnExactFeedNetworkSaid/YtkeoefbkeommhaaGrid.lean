/-
  Words for slices of slices of ints, and what areStreams answers. No statement of the seat is proved here.
-/
import Derived.Test.YtkeoefbkeommhaaRun
import Derived.Test.YtkeoefbkeommhaaBoxes
namespace Go.Proofs.Ytkeoefbkeommhaa
open Go.RowKit

theorem infoS : (Try.prog.info? 26).map (fun i => (i.zero, i.size, i.bytes)) = some (some (.slice none 0 0), 1, 24) := by kernel_rfl
theorem infoS_parts : ∃ i0, Try.prog.info? 26 = some i0 ∧ i0.zero = some (.slice none 0 0) ∧ i0.size = 1 ∧ i0.bytes = 24 := by
  have h := infoS
  cases e : Try.prog.info? 26 with
  | none => rw [e] at h; cases h
  | some i =>
    rw [e] at h
    simp only [Option.map_some, Option.some.injEq, Prod.mk.injEq] at h
    exact ⟨i, rfl, h.1, h.2.1, h.2.2⟩
/-- 'v' is a slice of slices of ints that reads as 'xss'. -/
def SlR (w : World) (v : Value) (xss : List (List Int)) : Prop :=
  ∃ (a : Option Addr) (cap : Nat), v = .slice a xss.length cap ∧ xss.length ≤ cap ∧ cap ≤ maxLen ∧ (a = none → cap = 0) ∧
    (xss = [] ∨ ∃ b off, a = some ⟨b, off, none⟩ ∧ b < w.heap.size ∧ ∀ i xs, xss[i]? = some xs → ∃ u, w.cell? ⟨b, off + i, none⟩ = some u ∧ Sl w u xs)
theorem SlR.below {w w' : World} {v : Value} {xss : List (List Int)} (h : SlR w v xss) (hb : Below w.heap.size w w') : SlR w' v xss := by
  obtain ⟨a, cap, hv, h1, h2, h3, h4⟩ := h
  refine ⟨a, cap, hv, h1, h2, h3, ?_⟩
  rcases h4 with h4 | ⟨b, off, ha, hlt, hc⟩
  · exact .inl h4
  · refine .inr ⟨b, off, ha, Nat.lt_of_lt_of_le hlt hb.size, fun i xs hi => ?_⟩
    obtain ⟨u, h5, h6⟩ := hc i xs hi
    exact ⟨u, (hb.cell hlt).trans h5, h6.below hb⟩

def areS (xss : List (List Int)) (n : Int) : Bool := decide ((xss.length : Int) = n) && xss.all isS
theorem areS_parts {xss : List (List Int)} {n : Int} (h : areS xss n = true) : (xss.length : Int) = n ∧ ∀ xs ∈ xss, isS xs = true := by
  unfold areS at h
  rw [Bool.and_eq_true] at h
  exact ⟨of_decide_eq_true h.1, List.all_eq_true.1 h.2⟩
theorem allS_step {xss : List (List Int)} {k : Nat} {x : List Int} (hx : xss[k]? = some x) (ha : (xss.take k).all isS = true) (hp : isS x = true) : (xss.take (k + 1)).all isS = true := by
  have hk := (List.getElem?_eq_some_iff.1 hx).1
  rw [List.take_succ_eq_append_getElem hk, (List.getElem?_eq_some_iff.1 hx).2]; simp at ha ⊢; exact ⟨ha, hp⟩
theorem allS_no {xss : List (List Int)} {k : Nat} {x : List Int} (hx : xss[k]? = some x) (hp : isS x = false) : xss.all isS = false := by
  rw [List.all_eq_false]
  exact ⟨x, List.mem_of_getElem? hx, by simp [hp]⟩

end Go.Proofs.Ytkeoefbkeommhaa
