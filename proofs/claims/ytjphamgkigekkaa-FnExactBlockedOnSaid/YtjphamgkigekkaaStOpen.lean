/-
  What a state that came in reads as. No statement of the seat is proved here.
-/
import Derived.Test.YtjphamgkigekkaaStC
import Derived.Test.YtjphamgkigekkaaNetOpen
import Derived.Test.YtjphamgkigekkaaLawKit
import Derived.OpenShut
namespace Go.Proofs.Ytjphamgkigekkaa
open Go.ChangeShapes Go.WideShapes Go.ChangeAt Go.RowKit

section
variable {H : Type} {enc : TypeId × Value → H} {w : World} {base : Nat} {spare : Nat → Bool} {held : Bool}

theorem cells_actL2 : Try.prog.cellsOf 150 = 2 := by kernel_rfl
theorem cells_stL : Try.prog.cellsOf 59 = 4 := by kernel_rfl
theorem cells_actsL : Try.prog.cellsOf 57 = 1 := by kernel_rfl

set_option maxRecDepth 100000 in
theorem open_actE {fuel : Nat} {cs : List Value} {x : DataW H × List MemPlace} (h : DataW.trod enc Try.prog w base spare held fuel 150 cs = some x) :
    ∃ (p : Act) (c : Value), cs = [.int .i64 p.pc, c] ∧ Sl w c p.regs := by
  obtain ⟨xs, n, _, rfl, hl, hlen, hf⟩ := DataW.trod_struct Try.underlying150 h
  rw [cells_actL2] at hl
  match cs, hl with
  | [c0, c1], _ =>
    match xs, hlen with
    | [y0, y1], _ =>
      have f0 := hf 0 _ rfl
      have f1 := hf 1 _ rfl
      simp [cells_int, cells_ints] at f0 f1
      obtain ⟨n0, e0, _⟩ := DataW.trod_int Try.underlying3 f0
      obtain ⟨c, regs, e1, hs⟩ := open_intsL f1
      simp at e0 e1
      subst e0; subst e1
      exact ⟨⟨n0, regs⟩, c1, rfl, hs⟩
instance : Inhabited Act := ⟨⟨0, []⟩⟩
set_option maxRecDepth 100000 in
theorem open_actsL {fuel : Nat} {cs : List Value} {x : DataW H × List MemPlace} (h : DataW.trod enc Try.prog w base spare held fuel 57 cs = some x) :
    ∃ c ps, cs = [c] ∧ SlA w c ps := by
  rcases Go.Deep.open_slice Try.underlying57 h with ⟨rfl, _⟩ | ⟨a, len, cap, m, n, D, Pl, rfl, _, hl, hm, hmm, _, hx⟩
  · exact ⟨_, [], rfl, none, 0, rfl, Nat.le_refl _, by simp, fun _ => rfl, .inl rfl⟩
  · have hle : len ≤ m := by rw [hmm]; split <;> omega
    rw [cells_actL2] at hx
    have hy : ∀ i, i < len → ∃ y : Act, ∃ c, w.cell? (a.add (i * 2)) = some (.int .i64 y.pc) ∧ w.cell? ((a.add (i * 2)).add 1) = some c ∧ Sl w c y.regs := by
      intro i hi
      obtain ⟨cs', h1, h2⟩ := hx i (by omega)
      obtain ⟨y, c, rfl, hs⟩ := open_actE h2
      have hc := (World.cells?_some h1).2.2
      refine ⟨y, c, ?_, by simpa using hc 1 (by omega), hs⟩
      have := hc 0 (by omega)
      simpa [Addr.add] using this
    obtain ⟨Y, hY⟩ := Go.Deep.choose_lt hy
    refine ⟨_, (List.range len).map Y, rfl, some a, cap, by simp, by simpa using hl, hm, (fun e => by cases e), ?_⟩
    by_cases h0 : len = 0
    · left; subst h0; rfl
    · right
      obtain ⟨b, off, spot⟩ := a
      obtain ⟨c1, h1, _⟩ := hY 0 (by omega)
      obtain rfl : spot = none := by simpa [Addr.add] using World.cell?_spot h1
      refine ⟨b, off, rfl, by have := World.block_lt_of_cell? w _ h1; simpa [Addr.add] using this, fun i x hi => ?_⟩
      have hlt : i < len := by have := (List.getElem?_eq_some_iff.1 hi).1; simpa using this
      have hxe : x = Y i := by rw [List.getElem?_map, List.getElem?_range hlt] at hi; simpa using hi.symm
      subst hxe
      have := hY i hlt
      simp only [Addr.add_lit] at this
      exact this
set_option maxRecDepth 100000 in
theorem open_stE {fuel : Nat} {cs : List Value} {x : DataW H × List MemPlace} (h : DataW.trod enc Try.prog w base spare held fuel 59 cs = some x) :
    ∃ (s : Stt) (a q r : Value), cs = [a, q, r, .int .i64 s.steps] ∧ SlA w a s.acts ∧ SlR w q s.queues ∧ SlR w r s.sent := by
  obtain ⟨xs, n, _, rfl, hl, hlen, hf⟩ := DataW.trod_struct Try.underlying59 h
  rw [cells_stL] at hl
  match cs, hl with
  | [c0, c1, c2, c3], _ =>
    match xs, hlen with
    | [y0, y1, y2, y3], _ =>
      have f0 := hf 0 _ rfl
      have f1 := hf 1 _ rfl
      have f2 := hf 2 _ rfl
      have f3 := hf 3 _ rfl
      simp [cells_int, cells_rowsL, cells_actsL] at f0 f1 f2 f3
      obtain ⟨a, acs, e0, h0⟩ := open_actsL f0
      obtain ⟨q, qs, e1, h1⟩ := open_rowsI f1
      obtain ⟨r, rs, e2, h2⟩ := open_rowsI f2
      obtain ⟨n3, e3, _⟩ := DataW.trod_int Try.underlying3 f3
      simp at e0 e1 e2 e3
      subst e0; subst e1; subst e2; subst e3
      exact ⟨⟨acs, qs, rs, n3⟩, _, _, _, rfl, h0, h1, h2⟩
set_option maxRecDepth 100000 in
theorem open_stL {v : Value} {d : DataW H} {p : List MemPlace} {r : _} {b2 : Nat} (hok : Value.okWide Try.prog w r b2 59 v) (h : DataW.Trod enc Try.prog w base spare held 59 v d p) : ∃ s, StV w v s := by
  obtain ⟨vs, rfl, _⟩ := okWide_struct Try.underlying59 hok
  obtain ⟨fuel, h⟩ := h
  obtain ⟨cs⟩ := vs
  simp only [Value.cells] at h
  obtain ⟨s, a, q, r, e, h0, h1, h2⟩ := open_stE h
  subst e
  exact ⟨s, a, q, r, rfl, h0, h1, h2⟩
end
end Go.Proofs.Ytjphamgkigekkaa
