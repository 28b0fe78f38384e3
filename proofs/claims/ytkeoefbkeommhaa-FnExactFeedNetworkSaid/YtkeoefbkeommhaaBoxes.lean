/-
  Boxes: blocks of a call's own that hold a struct; what a call, a mark leaves of them. No statement of the seat is proved here.
-/
import Derived.Test.YtkeoefbkeommhaaOpen
namespace Go.Proofs.Ytkeoefbkeommhaa
open Go.RowKit

section
variable {w w' W : World} {g T : Nat} {A : Obj} {u0 u1 u2 : Value}
theorem cells2 (h : w.heap[g]? = some (.cells #[u0, u1] T)) : w.cell? ⟨g, 0, none⟩ = some u0 ∧ w.cell? ⟨g, 1, none⟩ = some u1 := by
  have a := cell_of h 0; have b := cell_of h 1
  simp at a b; exact ⟨a, b⟩
theorem cells3 (h : w.heap[g]? = some (.cells #[u0, u1, u2] T)) : w.cell? ⟨g, 0, none⟩ = some u0 ∧ w.cell? ⟨g, 1, none⟩ = some u1 ∧ w.cell? ⟨g, 2, none⟩ = some u2 := by
  have a := cell_of h 0; have b := cell_of h 1; have c := cell_of h 2
  simp at a b c; exact ⟨a, b, c⟩
theorem lt_of {o : Obj} (h : w.heap[g]? = some o) : g < w.heap.size := (Array.getElem?_eq_some_iff.1 h).1
end

theorem bl2 {w wk W : World} (hB : Below w.heap.size w wk) (hp : Below wk.heap.size wk W) : Below w.heap.size w W := hB.trans (hp.mono hB.size)
theorem cr_d {w w' : World} (hb : Below w.drew.heap.size w.drew w') : Below w.heap.size w w' := (Below.refl _ _).drew.trans hb
theorem cr_1 {w w' : World} {A : Obj} (hb : Below (w.alloc A).heap.size (w.alloc A) w') : Below w.heap.size w w' := ((Below.refl _ _).al A).trans (hb.mono (by simp))
theorem cr_2 {w w' : World} {A B : Obj} (hb : Below ((w.alloc A).alloc B).heap.size ((w.alloc A).alloc B) w') : Below w.heap.size w w' := (((Below.refl _ _).al A).al B).trans (hb.mono (by simp; omega))
theorem cr_1d {w w' : World} {A : Obj} (hb : Below (w.alloc A).drew.heap.size (w.alloc A).drew w') : Below w.heap.size w w' := cr_1 (cr_d hb)
theorem cr_2d {w w' : World} {A B : Obj} (hb : Below ((w.alloc A).alloc B).drew.heap.size ((w.alloc A).alloc B).drew w') : Below w.heap.size w w' := cr_2 (cr_d hb)
theorem cr_d1 {w w' : World} {A : Obj} (hb : Below (w.drew.alloc A).heap.size (w.drew.alloc A) w') : Below w.heap.size w w' := cr_d (cr_1 hb)

/-- Outside the blocks from 'lo' to 'hi' the world w' is as w was. -/
structure Out (lo hi : Nat) (w w' : World) : Prop where
  os : w'.os = w.os
  tape : w'.tape = w.tape
  output : w'.output = w.output
  size : w.heap.size ≤ w'.heap.size
  block : ∀ k, k < w.heap.size → (k < lo ∨ hi ≤ k) → w'.heap[k]? = w.heap[k]?
theorem Out.of_grown {lo hi : Nat} {w w' : World} {row : Option Nat} (hg : w.grownBy w' row) (h : ∀ k, row = some k → lo ≤ k ∧ k < hi) : Out lo hi w w' :=
  ⟨hg.os, hg.tape, hg.output, hg.size, fun k hk ho => hg.block k hk (fun e => by have := h k e.symm; omega)⟩
theorem Out.trans {lo hi : Nat} {a b c : World} (h : Out lo hi a b) (k : Out lo hi b c) : Out lo hi a c :=
  ⟨k.os.trans h.os, k.tape.trans h.tape, k.output.trans h.output, Nat.le_trans h.size k.size, fun i hi ho => (k.block i (Nat.lt_of_lt_of_le hi h.size) ho).trans (h.block i hi ho)⟩
theorem Out.blk {lo hi g : Nat} {w w' : World} {o : Obj} (h : Out lo hi w w') (b : w.heap[g]? = some o) (hg : g < lo ∨ hi ≤ g) : w'.heap[g]? = some o :=
  (h.block g (lt_of b) hg).trans b
theorem Out.below {lo hi B : Nat} {a w w' : World} (h : Out lo hi w w') (hb : Below B a w) (hB : B ≤ w.heap.size) (hl : B ≤ lo) : Below B a w' :=
  hb.trans ⟨h.os, h.tape, h.output, h.size, fun k hk => h.block k (by omega) (.inl (by omega))⟩
theorem row_out {lo hi l T sz n : Nat} {w w' : World} {v : Value} {cs : List Value} (h : w.ownsRow l T sz v n cs) (ho : Out lo hi w w') (hd : ∀ k, v.ownBlock = some k → k < lo ∨ hi ≤ k) : w'.ownsRow l T sz v n cs := by
  have hl := World.ownsRow.lt h
  refine ⟨h.1, ?_⟩
  rcases h.2 with hn | ⟨g, cap, cur, rfl, hbb, hg, rest⟩
  · exact .inl hn
  · refine .inr ⟨g, cap, cur, rfl, hbb, ?_, rest⟩
    exact ho.blk hg (hd g rfl)
theorem OwnI.out {lo hi l h2 : Nat} {w w' : World} {v : Value} {xs : List Ins} (h : OwnI l w v xs) (u : ∀ k, v.ownBlock = some k → k < h2) (ho : Out lo hi w w') (hd : h2 ≤ lo ∨ hi ≤ l) : OwnI l w' v xs :=
  row_out h ho (fun k e => by have := u k e; have := (h.lt k e).1; omega)
theorem Own.out {lo hi l h2 : Nat} {w w' : World} {v : Value} {xs : List Int} (h : Own l w v xs) (u : ∀ k, v.ownBlock = some k → k < h2) (ho : Out lo hi w w') (hd : h2 ≤ lo ∨ hi ≤ l) : Own l w' v xs :=
  row_out h ho (fun k e => by have := u k e; have := (h.lt k e).1; omega)
theorem PrgO.c {lo : Nat} {w : World} {a b c : Value} {p : Prg} (h : PrgO lo w (.agg #[a, b, c]) p) : OwnI lo w c p.code := by
  obtain ⟨c', h1, h2⟩ := h
  simp at h1
  rw [h1.2.2]; exact h2
theorem ActO.c {lo : Nat} {w : World} {a c : Value} {p : Act} (h : ActO lo w (.agg #[a, c]) p) : Own lo w c p.regs := by
  obtain ⟨c', h1, h2⟩ := h
  simp at h1
  rw [h1.2]; exact h2
theorem agg_last3 (a b c : Value) : lastOf (.agg #[a, b, c]) = c := rfl
theorem agg_last2 (a b : Value) : lastOf (.agg #[a, b]) = b := rfl
end Go.Proofs.Ytkeoefbkeommhaa
