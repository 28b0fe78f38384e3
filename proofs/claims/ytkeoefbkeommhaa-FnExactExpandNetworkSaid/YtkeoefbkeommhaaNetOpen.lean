/-
  What a network that came in reads as. No statement of the seat is proved here.
-/
import Derived.Test.YtkeoefbkeommhaaNetA
import Derived.Test.YtkeoefbkeommhaaOpb
import Derived.OpenShut
namespace Go.Proofs.Ytkeoefbkeommhaa
open Go.ChangeShapes Go.WideShapes Go.ChangeAt Go.RowKit

section
variable {H : Type} {enc : TypeId × Value → H} {w : World} {base : Nat} {spare : Nat → Bool} {held : Bool}

theorem cells_lnkL : Try.prog.cellsOf 124 = 5 := by kernel_rfl
theorem cells_netL : Try.prog.cellsOf 25 = 2 := by kernel_rfl
theorem cells_prgsL : Try.prog.cellsOf 22 = 1 := by kernel_rfl
theorem cells_lnksL : Try.prog.cellsOf 23 = 1 := by kernel_rfl
theorem lit_wf {n : Int} (h : (Lit.int .i64 n).wf = true) : wfI n := by
  have e1 : IntKind.i64.min = -9223372036854775808 := by decide
  have e2 : IntKind.i64.max = 9223372036854775807 := by decide
  simp [Lit.wf, e1, e2] at h
  exact h

set_option maxRecDepth 100000 in
theorem open_prgE {fuel : Nat} {cs : List Value} {x : DataW H × List MemPlace} (h : DataW.trod enc Try.prog w base spare held fuel 122 cs = some x) :
    ∃ (p : Prg) (c : Value), cs = [.int .i64 p.ins, .int .i64 p.outs, c] ∧ SlI w c p.code := by
  obtain ⟨xs, n, _, rfl, hl, hlen, hf⟩ := DataW.trod_struct Try.underlying122 h
  rw [cells_prgL] at hl
  match cs, hl with
  | [c0, c1, c2], _ =>
    match xs, hlen with
    | [y0, y1, y2], _ =>
      have f0 := hf 0 _ rfl
      have f1 := hf 1 _ rfl
      have f2 := hf 2 _ rfl
      simp [cells_int, cells_codeL] at f0 f1 f2
      obtain ⟨n0, e0, _⟩ := DataW.trod_int Try.underlying3 f0
      obtain ⟨n1, e1, _⟩ := DataW.trod_int Try.underlying3 f1
      obtain ⟨c, code, e2, hs⟩ := open_codeL f2
      simp at e0 e1 e2
      subst e0; subst e1; subst e2
      exact ⟨⟨n0, n1, code⟩, c2, rfl, hs⟩
set_option maxRecDepth 100000 in
theorem open_lnkE {fuel : Nat} {cs : List Value} {x : DataW H × List MemPlace} (h : DataW.trod enc Try.prog w base spare held fuel 124 cs = some x) :
    ∃ (l : Lnk) (c : Value), cs = [.int .i64 l.frm, .int .i64 l.out, .int .i64 l.to, .int .i64 l.inn, c] ∧ wfL l ∧ Sl w c l.tok := by
  obtain ⟨xs, n, _, rfl, hl, hlen, hf⟩ := DataW.trod_struct Try.underlying124 h
  rw [cells_lnkL] at hl
  match cs, hl with
  | [c0, c1, c2, c3, c4], _ =>
    match xs, hlen with
    | [y0, y1, y2, y3, y4], _ =>
      have f0 := hf 0 _ rfl
      have f1 := hf 1 _ rfl
      have f2 := hf 2 _ rfl
      have f3 := hf 3 _ rfl
      have f4 := hf 4 _ rfl
      simp [cells_int, cells_ints] at f0 f1 f2 f3 f4
      obtain ⟨n0, e0, _, w0⟩ := DataW.trod_int Try.underlying3 f0
      obtain ⟨n1, e1, _, w1⟩ := DataW.trod_int Try.underlying3 f1
      obtain ⟨n2, e2, _, w2⟩ := DataW.trod_int Try.underlying3 f2
      obtain ⟨n3, e3, _, w3⟩ := DataW.trod_int Try.underlying3 f3
      obtain ⟨c, tok, e4, hs⟩ := open_intsL f4
      simp at e0 e1 e2 e3 e4
      subst e0; subst e1; subst e2; subst e3; subst e4
      exact ⟨⟨n0, n1, n2, n3, tok⟩, c4, rfl, ⟨⟨lit_wf w0, lit_wf w1⟩, ⟨lit_wf w2, lit_wf w3⟩⟩, hs⟩

instance : Inhabited Prg := ⟨⟨0, 0, []⟩⟩
instance : Inhabited Lnk := ⟨⟨0, 0, 0, 0, []⟩⟩

set_option maxRecDepth 100000 in
theorem open_prgsL {fuel : Nat} {cs : List Value} {x : DataW H × List MemPlace} (h : DataW.trod enc Try.prog w base spare held fuel 22 cs = some x) :
    ∃ c ps, cs = [c] ∧ SlP w c ps := by
  rcases Go.Deep.open_slice Try.underlying22 h with ⟨rfl, _⟩ | ⟨a, len, cap, m, n, D, Pl, rfl, _, hl, hm, hmm, _, hx⟩
  · exact ⟨_, [], rfl, none, 0, rfl, Nat.le_refl _, by simp, fun _ => rfl, .inl rfl⟩
  · have hle : len ≤ m := by rw [hmm]; split <;> omega
    rw [cells_prgL] at hx
    have hy : ∀ i, i < len → ∃ y : Prg, ∃ c, w.cell? (a.add (i * 3)) = some (.int .i64 y.ins) ∧ w.cell? ((a.add (i * 3)).add 1) = some (.int .i64 y.outs) ∧ w.cell? ((a.add (i * 3)).add 2) = some c ∧ SlI w c y.code := by
      intro i hi
      obtain ⟨cs', h1, h2⟩ := hx i (by omega)
      obtain ⟨y, c, rfl, hs⟩ := open_prgE h2
      have hc := (World.cells?_some h1).2.2
      refine ⟨y, c, ?_, by simpa using hc 1 (by omega), by simpa using hc 2 (by omega), hs⟩
      have := hc 0 (by omega)
      simpa [Addr.add] using this
    obtain ⟨Y, hY⟩ := Go.Deep.choose_lt hy
    refine ⟨_, (List.range len).map Y, rfl, some a, cap, by simp, by simpa using hl, hm, (fun e => by cases e), ?_⟩
    by_cases h0 : len = 0
    · left; subst h0; rfl
    · right
      obtain ⟨b, off, spot⟩ := a
      obtain ⟨c1, h1, _⟩ := hY 0 (by omega)
      obtain rfl : spot = none := by simpa [Addr.add] using World.cell?_spot h1
      refine ⟨b, off, rfl, by have := World.block_lt_of_cell? w _ h1; simpa [Addr.add] using this, fun i x hi => ?_⟩
      have hlt : i < len := by have := (List.getElem?_eq_some_iff.1 hi).1; simpa using this
      have hxe : x = Y i := by rw [List.getElem?_map, List.getElem?_range hlt] at hi; simpa using hi.symm
      subst hxe
      have := hY i hlt
      simp only [Addr.add_lit] at this
      exact this
set_option maxRecDepth 100000 in
theorem open_lnksL {fuel : Nat} {cs : List Value} {x : DataW H × List MemPlace} (h : DataW.trod enc Try.prog w base spare held fuel 23 cs = some x) :
    ∃ c ls, cs = [c] ∧ SlL w c ls := by
  rcases Go.Deep.open_slice Try.underlying23 h with ⟨rfl, _⟩ | ⟨a, len, cap, m, n, D, Pl, rfl, _, hl, hm, hmm, _, hx⟩
  · exact ⟨_, [], rfl, none, 0, rfl, Nat.le_refl _, by simp, fun _ => rfl, .inl rfl⟩
  · have hle : len ≤ m := by rw [hmm]; split <;> omega
    rw [cells_lnkL] at hx
    have hy : ∀ i, i < len → ∃ y : Lnk, ∃ c, w.cell? (a.add (i * 5)) = some (.int .i64 y.frm) ∧ w.cell? ((a.add (i * 5)).add 1) = some (.int .i64 y.out) ∧ w.cell? ((a.add (i * 5)).add 2) = some (.int .i64 y.to) ∧ w.cell? ((a.add (i * 5)).add 3) = some (.int .i64 y.inn) ∧ w.cell? ((a.add (i * 5)).add 4) = some c ∧ wfL y ∧ Sl w c y.tok := by
      intro i hi
      obtain ⟨cs', h1, h2⟩ := hx i (by omega)
      obtain ⟨y, c, rfl, hw, hs⟩ := open_lnkE h2
      have hc := (World.cells?_some h1).2.2
      refine ⟨y, c, ?_, by simpa using hc 1 (by omega), by simpa using hc 2 (by omega), by simpa using hc 3 (by omega), by simpa using hc 4 (by omega), hw, hs⟩
      have := hc 0 (by omega)
      simpa [Addr.add] using this
    obtain ⟨Y, hY⟩ := Go.Deep.choose_lt hy
    refine ⟨_, (List.range len).map Y, rfl, some a, cap, by simp, by simpa using hl, hm, (fun e => by cases e), ?_⟩
    by_cases h0 : len = 0
    · left; subst h0; rfl
    · right
      obtain ⟨b, off, spot⟩ := a
      obtain ⟨c1, h1, _⟩ := hY 0 (by omega)
      obtain rfl : spot = none := by simpa [Addr.add] using World.cell?_spot h1
      refine ⟨b, off, rfl, by have := World.block_lt_of_cell? w _ h1; simpa [Addr.add] using this, fun i x hi => ?_⟩
      have hlt : i < len := by have := (List.getElem?_eq_some_iff.1 hi).1; simpa using this
      have hxe : x = Y i := by rw [List.getElem?_map, List.getElem?_range hlt] at hi; simpa using hi.symm
      subst hxe
      have := hY i hlt
      simp only [Addr.add_lit] at this
      exact this

set_option maxRecDepth 100000 in
theorem open_netL {v : Value} {d : DataW H} {p : List MemPlace} {r : _} {b2 : Nat} (hok : Value.okWide Try.prog w r b2 25 v) (h : DataW.Trod enc Try.prog w base spare held 25 v d p) : ∃ n, NetV w v n := by
  obtain ⟨vs, rfl, _⟩ := okWide_struct Try.underlying25 hok
  obtain ⟨fuel, h⟩ := h
  obtain ⟨y0, y1, n, _, hl, h0, h1⟩ := trod_struct2 Try.underlying25 h
  obtain ⟨cs⟩ := vs
  simp only [Value.cells] at h0 h1 hl
  rw [cells_netL] at hl
  match cs, hl with
  | [c0, c1], _ =>
    simp only [cells_prgsL, cells_lnksL] at h0 h1
    obtain ⟨c, ps, e0, hs0⟩ := open_prgsL h0
    obtain ⟨d, ls, e1, hs1⟩ := open_lnksL h1
    simp at e0 e1
    subst e0; subst e1
    exact ⟨⟨ps, ls⟩, _, _, rfl, hs0, hs1⟩
end
end Go.Proofs.Ytkeoefbkeommhaa
