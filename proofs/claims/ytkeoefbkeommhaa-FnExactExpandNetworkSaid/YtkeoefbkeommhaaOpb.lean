/-
  What a program, an actor, a list of streams that came in reads as. No statement of the seat is proved here.
  Boxes: blocks of a call's own that hold a struct; what a call, a mark leaves of them. No statement of the seat is proved here.
-/
import Derived.Test.YtkeoefbkeommhaaPrg
import Derived.Deep.Slices
import Derived.Deep.Strs
import Derived.ProofKit
import Derived.OpenShut
namespace Go.Proofs.Ytkeoefbkeommhaa
open Go.RowKit

open Go.ChangeShapes Go.WideShapes Go.ChangeAt Go.RowKit

section
variable {H : Type} {enc : TypeId × Value → H} {w : World} {base : Nat} {spare : Nat → Bool} {held : Bool}

instance : Inhabited Ins := ⟨noIns⟩
theorem cells_int : Try.prog.cellsOf 3 = 1 := by kernel_rfl
theorem cells_insL : Try.prog.cellsOf 178 = 4 := by kernel_rfl
theorem cells_prgL : Try.prog.cellsOf 122 = 3 := by kernel_rfl
theorem cells_codeL : Try.prog.cellsOf 120 = 1 := by kernel_rfl
theorem cells_ints : Try.prog.cellsOf 26 = 1 := by kernel_rfl

set_option maxRecDepth 100000 in
theorem open_insL {fuel : Nat} {cs : List Value} {x : DataW H × List MemPlace} (h : DataW.trod enc Try.prog w base spare held fuel 178 cs = some x) :
    ∃ y : Ins, cs = [.int .i64 y.op, .int .i64 y.a, .int .i64 y.b, .int .i64 y.c] := by
  obtain ⟨xs, n, _, rfl, hl, hlen, hf⟩ := DataW.trod_struct Try.underlying178 h
  rw [cells_insL] at hl
  match cs, hl with
  | [c0, c1, c2, c3], _ =>
    match xs, hlen with
    | [y0, y1, y2, y3], _ =>
      have f0 := hf 0 _ rfl
      have f1 := hf 1 _ rfl
      have f2 := hf 2 _ rfl
      have f3 := hf 3 _ rfl
      simp [cells_int] at f0 f1 f2 f3
      obtain ⟨n0, e0, _⟩ := DataW.trod_int Try.underlying3 f0
      obtain ⟨n1, e1, _⟩ := DataW.trod_int Try.underlying3 f1
      obtain ⟨n2, e2, _⟩ := DataW.trod_int Try.underlying3 f2
      obtain ⟨n3, e3, _⟩ := DataW.trod_int Try.underlying3 f3
      simp at e0 e1 e2 e3
      subst e0; subst e1; subst e2; subst e3
      exact ⟨⟨n0, n1, n2, n3⟩, rfl⟩

theorem spot_none {w : World} {a : Addr} {v : Value} (h : w.cell? a = some v) : a.spot = none := World.cell?_spot h

set_option maxRecDepth 100000 in
theorem open_codeL {fuel : Nat} {cs : List Value} {x : DataW H × List MemPlace} (h : DataW.trod enc Try.prog w base spare held fuel 120 cs = some x) :
    ∃ c code, cs = [c] ∧ SlI w c code := by
  rcases Go.Deep.open_slice Try.underlying120 h with ⟨rfl, _⟩ | ⟨a, len, cap, m, n, D, Pl, rfl, _, hl, hm, hmm, _, hx⟩
  · exact ⟨_, [], rfl, none, 0, rfl, Nat.le_refl _, by simp, fun _ => rfl, .inl rfl⟩
  · have hle : len ≤ m := by rw [hmm]; split <;> omega
    rw [cells_insL] at hx
    have hy : ∀ i, i < len → ∃ y : Ins, w.cell? (a.add (i * 4)) = some (.int .i64 y.op) ∧ w.cell? ((a.add (i * 4)).add 1) = some (.int .i64 y.a) ∧ w.cell? ((a.add (i * 4)).add 2) = some (.int .i64 y.b) ∧ w.cell? ((a.add (i * 4)).add 3) = some (.int .i64 y.c) := by
      intro i hi
      obtain ⟨cs', h1, h2⟩ := hx i (by omega)
      obtain ⟨y, rfl⟩ := open_insL h2
      have hc := (World.cells?_some h1).2.2
      refine ⟨y, ?_, by simpa using hc 1 (by omega), by simpa using hc 2 (by omega), by simpa using hc 3 (by omega)⟩
      have := hc 0 (by omega)
      simpa [Addr.add] using this
    obtain ⟨Y, hY⟩ := Go.Deep.choose_lt hy
    refine ⟨_, (List.range len).map Y, rfl, some a, cap, by simp, by simpa using hl, hm, (fun e => by cases e), ?_⟩
    by_cases h0 : len = 0
    · left; subst h0; rfl
    · right
      obtain ⟨b, off, spot⟩ := a
      have h1 := (hY 0 (by omega)).1
      obtain rfl : spot = none := by simpa [Addr.add] using World.cell?_spot h1
      refine ⟨b, off, rfl, by have := World.block_lt_of_cell? w _ h1; simpa [Addr.add] using this, fun i x hi => ?_⟩
      have hlt : i < len := by have := (List.getElem?_eq_some_iff.1 hi).1; simpa using this
      have hxe : x = Y i := by rw [List.getElem?_map, List.getElem?_range hlt] at hi; simpa using hi.symm
      subst hxe
      have := hY i hlt
      simp only [Addr.add_lit] at this
      exact this

set_option maxRecDepth 100000 in
theorem open_intsL {fuel : Nat} {cs : List Value} {x : DataW H × List MemPlace} (h : DataW.trod enc Try.prog w base spare held fuel 26 cs = some x) :
    ∃ c xs, cs = [c] ∧ Sl w c xs := by
  rcases open_ints Try.underlying26 Try.underlying3 cells_int h with ⟨rfl, _⟩ | ⟨a, len, cap, zs, rfl, _, hl, hm, hz, _, hc, _⟩
  · exact ⟨_, [], rfl, none, 0, rfl, Nat.le_refl _, by simp, fun _ => rfl, .inl rfl⟩
  · have hlz : len ≤ zs.length := by rw [hz]; split <;> omega
    have hlen : (zs.take len).length = len := by simp; omega
    refine ⟨_, zs.take len, rfl, some a, cap, by rw [hlen], by omega, hm, (fun e => by cases e), ?_⟩
    by_cases h0 : len = 0
    · left; subst h0; simp
    · right
      obtain ⟨b, off, spot⟩ := a
      have h1 := hc 0 (by omega)
      obtain rfl : spot = none := by simpa [Addr.add] using World.cell?_spot h1
      refine ⟨b, off, rfl, by have := World.block_lt_of_cell? w _ h1; simpa [Addr.add] using this, fun i hi => ?_⟩
      have hi' : i < len := by omega
      have h2 := hc i (by omega)
      rw [Addr.add_lit] at h2
      rw [h2]
      simp only [List.getD_eq_getElem?_getD, List.getElem?_take]
      rw [if_pos (by omega)]

set_option maxRecDepth 100000 in
theorem open_prgL {v : Value} {d : DataW H} {p : List MemPlace} {r : _} {b2 : Nat} (hok : Value.okWide Try.prog w r b2 122 v) (h : DataW.Trod enc Try.prog w base spare held 122 v d p) : ∃ p, PrgV w v p := by
  obtain ⟨vs, rfl, _⟩ := okWide_struct Try.underlying122 hok
  obtain ⟨fuel, h⟩ := h
  obtain ⟨y0, y1, y2, n, _, hl, h0, h1, h2⟩ := Go.Deep.trod_struct3 Try.underlying122 h
  obtain ⟨cs⟩ := vs
  simp only [Value.cells] at h0 h1 h2 hl
  rw [cells_prgL] at hl
  match cs, hl with
  | [c0, c1, c2], _ =>
    simp only [cells_int, cells_codeL] at h0 h1 h2
    obtain ⟨n0, e0, _⟩ := DataW.trod_int Try.underlying3 h0
    obtain ⟨n1, e1, _⟩ := DataW.trod_int Try.underlying3 h1
    obtain ⟨c, code, e2, hs⟩ := open_codeL h2
    simp at e0 e1 e2
    subst e0; subst e1; subst e2
    exact ⟨⟨n0, n1, code⟩, _, rfl, hs⟩

end

section
variable {w w' W : World} {g T : Nat} {A : Obj} {u0 u1 u2 : Value}
theorem cells2 (h : w.heap[g]? = some (.cells #[u0, u1] T)) : w.cell? ⟨g, 0, none⟩ = some u0 ∧ w.cell? ⟨g, 1, none⟩ = some u1 := by
  have a := cell_of h 0; have b := cell_of h 1
  simp at a b; exact ⟨a, b⟩
theorem cells3 (h : w.heap[g]? = some (.cells #[u0, u1, u2] T)) : w.cell? ⟨g, 0, none⟩ = some u0 ∧ w.cell? ⟨g, 1, none⟩ = some u1 ∧ w.cell? ⟨g, 2, none⟩ = some u2 := by
  have a := cell_of h 0; have b := cell_of h 1; have c := cell_of h 2
  simp at a b c; exact ⟨a, b, c⟩
theorem lt_of {o : Obj} (h : w.heap[g]? = some o) : g < w.heap.size := (Array.getElem?_eq_some_iff.1 h).1
end

theorem bl2 {w wk W : World} (hB : Below w.heap.size w wk) (hp : Below wk.heap.size wk W) : Below w.heap.size w W := hB.trans (hp.mono hB.size)
theorem cr_d {w w' : World} (hb : Below w.drew.heap.size w.drew w') : Below w.heap.size w w' := (Below.refl _ _).drew.trans hb
theorem cr_1 {w w' : World} {A : Obj} (hb : Below (w.alloc A).heap.size (w.alloc A) w') : Below w.heap.size w w' := ((Below.refl _ _).al A).trans (hb.mono (by simp))
theorem cr_2 {w w' : World} {A B : Obj} (hb : Below ((w.alloc A).alloc B).heap.size ((w.alloc A).alloc B) w') : Below w.heap.size w w' := (((Below.refl _ _).al A).al B).trans (hb.mono (by simp; omega))
theorem cr_1d {w w' : World} {A : Obj} (hb : Below (w.alloc A).drew.heap.size (w.alloc A).drew w') : Below w.heap.size w w' := cr_1 (cr_d hb)
theorem cr_2d {w w' : World} {A B : Obj} (hb : Below ((w.alloc A).alloc B).drew.heap.size ((w.alloc A).alloc B).drew w') : Below w.heap.size w w' := cr_2 (cr_d hb)
theorem cr_d1 {w w' : World} {A : Obj} (hb : Below (w.drew.alloc A).heap.size (w.drew.alloc A) w') : Below w.heap.size w w' := cr_d (cr_1 hb)

/-- Outside the blocks from 'lo' to 'hi' the world w' is as w was. -/
structure Out (lo hi : Nat) (w w' : World) : Prop where
  os : w'.os = w.os
  tape : w'.tape = w.tape
  output : w'.output = w.output
  size : w.heap.size ≤ w'.heap.size
  block : ∀ k, k < w.heap.size → (k < lo ∨ hi ≤ k) → w'.heap[k]? = w.heap[k]?
theorem Out.of_grown {lo hi : Nat} {w w' : World} {row : Option Nat} (hg : w.grownBy w' row) (h : ∀ k, row = some k → lo ≤ k ∧ k < hi) : Out lo hi w w' :=
  ⟨hg.os, hg.tape, hg.output, hg.size, fun k hk ho => hg.block k hk (fun e => by have := h k e.symm; omega)⟩
theorem Out.trans {lo hi : Nat} {a b c : World} (h : Out lo hi a b) (k : Out lo hi b c) : Out lo hi a c :=
  ⟨k.os.trans h.os, k.tape.trans h.tape, k.output.trans h.output, Nat.le_trans h.size k.size, fun i hi ho => (k.block i (Nat.lt_of_lt_of_le hi h.size) ho).trans (h.block i hi ho)⟩
theorem Out.blk {lo hi g : Nat} {w w' : World} {o : Obj} (h : Out lo hi w w') (b : w.heap[g]? = some o) (hg : g < lo ∨ hi ≤ g) : w'.heap[g]? = some o :=
  (h.block g (lt_of b) hg).trans b
theorem Out.below {lo hi B : Nat} {a w w' : World} (h : Out lo hi w w') (hb : Below B a w) (hB : B ≤ w.heap.size) (hl : B ≤ lo) : Below B a w' :=
  hb.trans ⟨h.os, h.tape, h.output, h.size, fun k hk => h.block k (by omega) (.inl (by omega))⟩
theorem row_out {lo hi l T sz n : Nat} {w w' : World} {v : Value} {cs : List Value} (h : w.ownsRow l T sz v n cs) (ho : Out lo hi w w') (hd : ∀ k, v.ownBlock = some k → k < lo ∨ hi ≤ k) : w'.ownsRow l T sz v n cs := by
  have hl := World.ownsRow.lt h
  refine ⟨h.1, ?_⟩
  rcases h.2 with hn | ⟨g, cap, cur, rfl, hbb, hg, rest⟩
  · exact .inl hn
  · refine .inr ⟨g, cap, cur, rfl, hbb, ?_, rest⟩
    exact ho.blk hg (hd g rfl)
theorem OwnI.out {lo hi l h2 : Nat} {w w' : World} {v : Value} {xs : List Ins} (h : OwnI l w v xs) (u : ∀ k, v.ownBlock = some k → k < h2) (ho : Out lo hi w w') (hd : h2 ≤ lo ∨ hi ≤ l) : OwnI l w' v xs :=
  row_out h ho (fun k e => by have := u k e; have := (h.lt k e).1; omega)
theorem Own.out {lo hi l h2 : Nat} {w w' : World} {v : Value} {xs : List Int} (h : Own l w v xs) (u : ∀ k, v.ownBlock = some k → k < h2) (ho : Out lo hi w w') (hd : h2 ≤ lo ∨ hi ≤ l) : Own l w' v xs :=
  row_out h ho (fun k e => by have := u k e; have := (h.lt k e).1; omega)
theorem PrgO.c {lo : Nat} {w : World} {a b c : Value} {p : Prg} (h : PrgO lo w (.agg #[a, b, c]) p) : OwnI lo w c p.code := by
  obtain ⟨c', h1, h2⟩ := h
  simp at h1
  rw [h1.2.2]; exact h2
theorem ActO.c {lo : Nat} {w : World} {a c : Value} {p : Act} (h : ActO lo w (.agg #[a, c]) p) : Own lo w c p.regs := by
  obtain ⟨c', h1, h2⟩ := h
  simp at h1
  rw [h1.2]; exact h2
theorem agg_last3 (a b c : Value) : lastOf (.agg #[a, b, c]) = c := rfl
theorem agg_last2 (a b : Value) : lastOf (.agg #[a, b]) = b := rfl
end Go.Proofs.Ytkeoefbkeommhaa
