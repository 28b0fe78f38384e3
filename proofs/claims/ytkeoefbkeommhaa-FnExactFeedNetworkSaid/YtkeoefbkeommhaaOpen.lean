/-
  What a program, an actor, a list of streams that came in reads as. No statement of the seat is proved here.
-/
import Derived.Test.YtkeoefbkeommhaaPrg
import Derived.Deep.Slices
import Derived.Deep.Strs
import Derived.ProofKit
import Derived.OpenShut
namespace Go.Proofs.Ytkeoefbkeommhaa
open Go.ChangeShapes Go.WideShapes Go.ChangeAt Go.RowKit

section
variable {H : Type} {enc : TypeId × Value → H} {w : World} {base : Nat} {spare : Nat → Bool} {held : Bool}

instance : Inhabited Ins := ⟨noIns⟩
theorem cells_int : Try.prog.cellsOf 3 = 1 := by kernel_rfl
theorem cells_insL : Try.prog.cellsOf 178 = 4 := by kernel_rfl
theorem cells_prgL : Try.prog.cellsOf 122 = 3 := by kernel_rfl
theorem cells_codeL : Try.prog.cellsOf 120 = 1 := by kernel_rfl
theorem cells_ints : Try.prog.cellsOf 26 = 1 := by kernel_rfl

set_option maxRecDepth 100000 in
theorem open_insL {fuel : Nat} {cs : List Value} {x : DataW H × List MemPlace} (h : DataW.trod enc Try.prog w base spare held fuel 178 cs = some x) :
    ∃ y : Ins, cs = [.int .i64 y.op, .int .i64 y.a, .int .i64 y.b, .int .i64 y.c] := by
  obtain ⟨xs, n, _, rfl, hl, hlen, hf⟩ := DataW.trod_struct Try.underlying178 h
  rw [cells_insL] at hl
  match cs, hl with
  | [c0, c1, c2, c3], _ =>
    match xs, hlen with
    | [y0, y1, y2, y3], _ =>
      have f0 := hf 0 _ rfl
      have f1 := hf 1 _ rfl
      have f2 := hf 2 _ rfl
      have f3 := hf 3 _ rfl
      simp [cells_int] at f0 f1 f2 f3
      obtain ⟨n0, e0, _⟩ := DataW.trod_int Try.underlying3 f0
      obtain ⟨n1, e1, _⟩ := DataW.trod_int Try.underlying3 f1
      obtain ⟨n2, e2, _⟩ := DataW.trod_int Try.underlying3 f2
      obtain ⟨n3, e3, _⟩ := DataW.trod_int Try.underlying3 f3
      simp at e0 e1 e2 e3
      subst e0; subst e1; subst e2; subst e3
      exact ⟨⟨n0, n1, n2, n3⟩, rfl⟩

theorem spot_none {w : World} {a : Addr} {v : Value} (h : w.cell? a = some v) : a.spot = none := World.cell?_spot h

set_option maxRecDepth 100000 in
theorem open_codeL {fuel : Nat} {cs : List Value} {x : DataW H × List MemPlace} (h : DataW.trod enc Try.prog w base spare held fuel 120 cs = some x) :
    ∃ c code, cs = [c] ∧ SlI w c code := by
  rcases Go.Deep.open_slice Try.underlying120 h with ⟨rfl, _⟩ | ⟨a, len, cap, m, n, D, Pl, rfl, _, hl, hm, hmm, _, hx⟩
  · exact ⟨_, [], rfl, none, 0, rfl, Nat.le_refl _, by simp, fun _ => rfl, .inl rfl⟩
  · have hle : len ≤ m := by rw [hmm]; split <;> omega
    rw [cells_insL] at hx
    have hy : ∀ i, i < len → ∃ y : Ins, w.cell? (a.add (i * 4)) = some (.int .i64 y.op) ∧ w.cell? ((a.add (i * 4)).add 1) = some (.int .i64 y.a) ∧ w.cell? ((a.add (i * 4)).add 2) = some (.int .i64 y.b) ∧ w.cell? ((a.add (i * 4)).add 3) = some (.int .i64 y.c) := by
      intro i hi
      obtain ⟨cs', h1, h2⟩ := hx i (by omega)
      obtain ⟨y, rfl⟩ := open_insL h2
      have hc := (World.cells?_some h1).2.2
      refine ⟨y, ?_, by simpa using hc 1 (by omega), by simpa using hc 2 (by omega), by simpa using hc 3 (by omega)⟩
      have := hc 0 (by omega)
      simpa [Addr.add] using this
    obtain ⟨Y, hY⟩ := Go.Deep.choose_lt hy
    refine ⟨_, (List.range len).map Y, rfl, some a, cap, by simp, by simpa using hl, hm, (fun e => by cases e), ?_⟩
    by_cases h0 : len = 0
    · left; subst h0; rfl
    · right
      obtain ⟨b, off, spot⟩ := a
      have h1 := (hY 0 (by omega)).1
      obtain rfl : spot = none := by simpa [Addr.add] using World.cell?_spot h1
      refine ⟨b, off, rfl, by have := World.block_lt_of_cell? w _ h1; simpa [Addr.add] using this, fun i x hi => ?_⟩
      have hlt : i < len := by have := (List.getElem?_eq_some_iff.1 hi).1; simpa using this
      have hxe : x = Y i := by rw [List.getElem?_map, List.getElem?_range hlt] at hi; simpa using hi.symm
      subst hxe
      have := hY i hlt
      simp only [Addr.add_lit] at this
      exact this

set_option maxRecDepth 100000 in
theorem open_intsL {fuel : Nat} {cs : List Value} {x : DataW H × List MemPlace} (h : DataW.trod enc Try.prog w base spare held fuel 26 cs = some x) :
    ∃ c xs, cs = [c] ∧ Sl w c xs := by
  rcases open_ints Try.underlying26 Try.underlying3 cells_int h with ⟨rfl, _⟩ | ⟨a, len, cap, zs, rfl, _, hl, hm, hz, _, hc, _⟩
  · exact ⟨_, [], rfl, none, 0, rfl, Nat.le_refl _, by simp, fun _ => rfl, .inl rfl⟩
  · have hlz : len ≤ zs.length := by rw [hz]; split <;> omega
    have hlen : (zs.take len).length = len := by simp; omega
    refine ⟨_, zs.take len, rfl, some a, cap, by rw [hlen], by omega, hm, (fun e => by cases e), ?_⟩
    by_cases h0 : len = 0
    · left; subst h0; simp
    · right
      obtain ⟨b, off, spot⟩ := a
      have h1 := hc 0 (by omega)
      obtain rfl : spot = none := by simpa [Addr.add] using World.cell?_spot h1
      refine ⟨b, off, rfl, by have := World.block_lt_of_cell? w _ h1; simpa [Addr.add] using this, fun i hi => ?_⟩
      have hi' : i < len := by omega
      have h2 := hc i (by omega)
      rw [Addr.add_lit] at h2
      rw [h2]
      simp only [List.getD_eq_getElem?_getD, List.getElem?_take]
      rw [if_pos (by omega)]

set_option maxRecDepth 100000 in
theorem open_prgL {v : Value} {d : DataW H} {p : List MemPlace} {r : _} {b2 : Nat} (hok : Value.okWide Try.prog w r b2 122 v) (h : DataW.Trod enc Try.prog w base spare held 122 v d p) : ∃ p, PrgV w v p := by
  obtain ⟨vs, rfl, _⟩ := okWide_struct Try.underlying122 hok
  obtain ⟨fuel, h⟩ := h
  obtain ⟨y0, y1, y2, n, _, hl, h0, h1, h2⟩ := Go.Deep.trod_struct3 Try.underlying122 h
  obtain ⟨cs⟩ := vs
  simp only [Value.cells] at h0 h1 h2 hl
  rw [cells_prgL] at hl
  match cs, hl with
  | [c0, c1, c2], _ =>
    simp only [cells_int, cells_codeL] at h0 h1 h2
    obtain ⟨n0, e0, _⟩ := DataW.trod_int Try.underlying3 h0
    obtain ⟨n1, e1, _⟩ := DataW.trod_int Try.underlying3 h1
    obtain ⟨c, code, e2, hs⟩ := open_codeL h2
    simp at e0 e1 e2
    subst e0; subst e1; subst e2
    exact ⟨⟨n0, n1, code⟩, _, rfl, hs⟩

end
end Go.Proofs.Ytkeoefbkeommhaa
