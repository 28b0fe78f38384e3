/-
  What the program's RunProcess answers, refusals too. No statement of the seat is proved here.
  What RunProcess answers, the program's and the model's, refusals too. No statement of the seat is proved here.
-/
import Derived.Test.YtjphamgkigekkaaRunI
import Derived.Test.YtjphamgkigekkaaRunM
import Derived.Test.YtjphamgkigekkaaLawKit
namespace Go.Proofs.Ytjphamgkigekkaa
open Go.RowKit

def runOk (p : Prg) (inp : List (List Int)) (f : Int) : Bool := okP p && areS inp p.ins && decide (0 ≤ f ∧ f ≤ 3000)
def runOf (p : Prg) (inp : List (List Int)) (f : Int) : St × Int := runS p.code inp f.toNat (startS p.ins.toNat p.outs.toNat)
def runProcessR2 (p : Prg) (inp : List (List Int)) (f : Int) : Int := if runOk p inp f then (runOf p inp f).2 else 0
/-- What lies in the two results: rows of the call's own, or nothing where the run is refused. -/
def OutR (lo : Nat) (w : World) (v u : Value) (p : Prg) (inp : List (List Int)) (f : Int) : Prop :=
  if runOk p inp f = true then OutO lo w v u (runOf p inp f).1.outs (runOf p inp f).1.used else v = .slice none 0 0 ∧ u = .slice none 0 0
theorem runOk_p {p : Prg} {inp : List (List Int)} {f : Int} (h : okP p = false) : runOk p inp f = false := by unfold runOk; rw [h]; rfl
theorem runOk_s {p : Prg} {inp : List (List Int)} {f : Int} (h : areS inp p.ins = false) : runOk p inp f = false := by unfold runOk; rw [h]; simp
theorem runOk_f {p : Prg} {inp : List (List Int)} {f : Int} (h : ¬ (0 ≤ f ∧ f ≤ 3000)) : runOk p inp f = false := by unfold runOk; rw [decide_eq_false h]; simp
theorem outR_no {lo : Nat} {w : World} {p : Prg} {inp : List (List Int)} {f : Int} (h : runOk p inp f = false) : OutR lo w (.slice none 0 0) (.slice none 0 0) p inp f := by
  unfold OutR; rw [if_neg (by rw [h]; decide)]; exact ⟨rfl, rfl⟩
theorem runR2_no {p : Prg} {inp : List (List Int)} {f : Int} (h : runOk p inp f = false) : runProcessR2 p inp f = 0 := by
  unfold runProcessR2; rw [if_neg (by rw [h]; decide)]

def runR0 (p : Prg) (inp : List (List Int)) (f : Int) : List (List Int) := if runOk p inp f then (runOf p inp f).1.outs else []
def runR1 (p : Prg) (inp : List (List Int)) (f : Int) : List Int := if runOk p inp f then (runOf p inp f).1.used else []
theorem runS_good {p : Prg} {inp : List (List Int)} (hp : okP p = true) (hi : ∀ xs ∈ inp, isS xs = true) : ∀ (n : Nat) (st : St), GoodS p inp st → GoodS p inp (runS p.code inp n st).1
  | 0, st, h => by unfold runS; exact h
  | n + 1, st, h => by
    unfold runS
    by_cases hs : stuckS p.code inp st = true
    · rw [if_pos hs]; exact h
    · rw [if_neg hs]
      obtain ⟨x, hx, hi2, h11, hok, h1, h2⟩ := not_stuck hp (by simpa using hs)
      rw [hi2]
      exact runS_good hp hi n _ (step_good hi h hx hok h1 h2)
theorem runOk_good {p : Prg} {inp : List (List Int)} {f : Int} (h : runOk p inp f = true) : GoodS p inp (runOf p inp f).1 ∧ 0 ≤ p.ins ∧ p.ins ≤ 3 ∧ 0 ≤ p.outs ∧ p.outs ≤ 3 := by
  unfold runOk at h
  rw [Bool.and_eq_true, Bool.and_eq_true] at h
  obtain ⟨⟨h1, h2⟩, h4⟩ := h
  have hP := (okP_parts h1).1
  refine ⟨?_, by omega⟩
  obtain ⟨pi, po, code⟩ := p
  simp only [] at hP h2
  obtain ⟨ni, rfl⟩ : ∃ n : Nat, pi = n := ⟨pi.toNat, by omega⟩
  obtain ⟨no, rfl⟩ : ∃ n : Nat, po = n := ⟨po.toNat, by omega⟩
  exact runS_good h1 (areS_parts h2).2 _ _ (start_good h1)
theorem sumT_le {c : Nat} : ∀ (xss : List (List Int)), (∀ xs ∈ xss, xs.length ≤ c) → sumT xss ≤ c * xss.length
  | [], _ => by simp [sumT]
  | x :: xs, h => by
    have h1 := sumT_le xs (fun y hy => h y (List.mem_cons_of_mem _ hy))
    have h2 := h x (List.mem_cons_self ..)
    unfold sumT at h1 ⊢
    rw [List.map_cons, List.sum_cons, List.length_cons, Nat.mul_add, Nat.mul_one]
    show stR x + _ ≤ _
    unfold stR at h1 ⊢
    omega
theorem runR_bd (p : Prg) (inp : List (List Int)) (f : Int) : (runR0 p inp f).length ≤ 3 ∧ sumT (runR0 p inp f) ≤ 1200 ∧ (runR1 p inp f).length ≤ 3 := by
  unfold runR0 runR1
  cases h : runOk p inp f with
  | false => simp [sumT]
  | true =>
    simp only [if_true]
    obtain ⟨g, a, b, c, d⟩ := runOk_good h
    have h1 := g.outsN
    have h2 := g.usedN
    refine ⟨by omega, ?_, by omega⟩
    have := sumT_le (c := 400) (runOf p inp f).1.outs (fun xs hx => by
      obtain ⟨i, hi⟩ := List.getElem?_of_mem hx
      exact isS_len (g.outs i xs hi))
    omega
theorem fam_hi {lo : Nat} {w : World} {us : List Value} {xss : List (List Int)} (h : Fam lo w us xss) : ∀ x ∈ us, ∀ q, x.ownBlock = some q → q < w.heap.size := by
  intro x hx q e
  obtain ⟨i, hi⟩ := List.getElem?_of_mem hx
  exact ((h.get hi).lt q e).2
theorem OutO.h {lo : Nat} {w : World} {v u : Value} {outs : List (List Int)} {used : List Int} (h : OutO lo w v u outs used) (hl : outs.length ≤ 1000) : OutH lo w.heap.size w v u outs used := by
  obtain ⟨us, B, h1, h2, h3, h4⟩ := h
  have hl2 := h4.len
  simp only [List.length_append, List.length_cons, List.length_nil] at hl2
  exact ⟨us, .inr ⟨B, us.length, us.toArray, h1, h2, lt_of h3, Nat.le_refl _, by unfold maxLen; omega, h3, by simp⟩, h4, fam_hi h4⟩
theorem OutM.h {lo : Nat} {w : World} {v u : Value} {outs : List (List Int)} {used : List Int} (h : OutM lo w v u outs used) : OutH lo w.heap.size w v u outs used := by
  obtain ⟨us, B, cap, cur, h1, h2, h3, h4, h5, h6, h7⟩ := h
  exact ⟨us, .inr ⟨B, cap, cur, h1, h2, lt_of h5, h3, h4, h5, h6⟩, h7, fam_hi h7⟩
theorem runR_no {p : Prg} {inp : List (List Int)} {f : Int} (h : runOk p inp f = false) : runR0 p inp f = [] ∧ runR1 p inp f = [] := by
  unfold runR0 runR1; rw [h]; exact ⟨rfl, rfl⟩
theorem runR_yes {p : Prg} {inp : List (List Int)} {f : Int} (h : runOk p inp f = true) : runR0 p inp f = (runOf p inp f).1.outs ∧ runR1 p inp f = (runOf p inp f).1.used := by
  unfold runR0 runR1; rw [h]; exact ⟨rfl, rfl⟩

end Go.Proofs.Ytjphamgkigekkaa
