/-
  What a list of streams that came in reads as. No statement of the seat is proved here.
-/
import Derived.Test.YtfjmebggghkehaaGrid
import Derived.Test.YtfjmebggghkehaaOpen
import Derived.OpenShut
namespace Go.Proofs.Ytfjmebggghkehaa
open Go.ChangeShapes Go.WideShapes Go.ChangeAt Go.RowKit

section
variable {H : Type} {enc : TypeId × Value → H} {w : World} {base : Nat} {spare : Nat → Bool} {held : Bool}

theorem cells_rowsL : Try.prog.cellsOf 26 = 1 := by kernel_rfl
set_option maxRecDepth 100000 in
theorem open_rowsI {fuel : Nat} {cs : List Value} {x : DataW H × List MemPlace} (h : DataW.trod enc Try.prog w base spare held fuel 26 cs = some x) :
    ∃ c xss, cs = [c] ∧ SlR w c xss := by
  rcases Go.Deep.open_slice Try.underlying26 h with ⟨rfl, _⟩ | ⟨a, len, cap, m, n, D, Pl, rfl, _, hl, hm, hmm, _, hx⟩
  · exact ⟨_, [], rfl, none, 0, rfl, Nat.le_refl _, by simp, fun _ => rfl, .inl rfl⟩
  · have hle : len ≤ m := by rw [hmm]; split <;> omega
    rw [cells_ints] at hx
    have hy : ∀ i, i < len → ∃ y : List Int, ∃ c, w.cell? (a.add (i * 1)) = some c ∧ Sl w c y := by
      intro i hi
      obtain ⟨cs', h1, h2⟩ := hx i (by omega)
      obtain ⟨c, y, rfl, hs⟩ := open_intsL h2
      have hc := (World.cells?_some h1).2.2
      refine ⟨y, c, ?_, hs⟩
      have := hc 0 (by omega)
      simpa [Addr.add] using this
    obtain ⟨Y, hY⟩ := Go.Deep.choose_lt hy
    refine ⟨_, (List.range len).map Y, rfl, some a, cap, by simp, by simpa using hl, hm, (fun e => by cases e), ?_⟩
    by_cases h0 : len = 0
    · left; subst h0; rfl
    · right
      obtain ⟨b, off, spot⟩ := a
      obtain ⟨c1, h1, _⟩ := hY 0 (by omega)
      obtain rfl : spot = none := by simpa [Addr.add] using World.cell?_spot h1
      refine ⟨b, off, rfl, by have := World.block_lt_of_cell? w _ h1; simpa [Addr.add] using this, fun i x hi => ?_⟩
      have hlt : i < len := by have := (List.getElem?_eq_some_iff.1 hi).1; simpa using this
      have hxe : x = Y i := by rw [List.getElem?_map, List.getElem?_range hlt] at hi; simpa using hi.symm
      subst hxe
      obtain ⟨c, hc⟩ := hY i hlt
      simp only [Addr.add_lit, Nat.mul_one] at hc
      exact ⟨c, hc⟩
set_option maxRecDepth 100000 in
theorem open_rowsL {v : Value} {d : DataW H} {p : List MemPlace} {r : _} {b2 : Nat} (hok : Value.okWide Try.prog w r b2 26 v) (h : DataW.Trod enc Try.prog w base spare held 26 v d p) : ∃ xss, SlR w v xss := by
  obtain ⟨a, len, cap, rfl⟩ := okWide_slice Try.underlying26 hok
  obtain ⟨fuel, h⟩ := h
  obtain ⟨c, xss, e, hs⟩ := open_rowsI h
  simp only [Value.cells, List.cons.injEq, and_true] at e
  subst e
  exact ⟨xss, hs⟩
end
end Go.Proofs.Ytfjmebggghkehaa
