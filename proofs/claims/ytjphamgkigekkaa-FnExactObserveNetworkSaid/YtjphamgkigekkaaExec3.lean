/-
  What the program's execute does to an actor behind a pointer. No statement of the seat is proved here.
-/
import Derived.Test.YtjphamgkigekkaaExec2
namespace Go.Proofs.Ytjphamgkigekkaa
open Go.RowKit

/-- Outside the blocks g and r the world w' is as w was. -/
structure Two (g r : Nat) (w w' : World) : Prop where
  os : w'.os = w.os
  tape : w'.tape = w.tape
  output : w'.output = w.output
  size : w.heap.size ≤ w'.heap.size
  block : ∀ k, k < w.heap.size → k ≠ g → k ≠ r → w'.heap[k]? = w.heap[k]?
theorem Two.trans {g r : Nat} {a b c : World} (h : Two g r a b) (k : Two g r b c) : Two g r a c :=
  ⟨k.os.trans h.os, k.tape.trans h.tape, k.output.trans h.output, Nat.le_trans h.size k.size, fun i hi h1 h2 => (k.block i (Nat.lt_of_lt_of_le hi h.size) h1 h2).trans (h.block i hi h1 h2)⟩
theorem Two.of_below {g r : Nat} {w w' : World} (h : Below w.heap.size w w') : Two g r w w' := ⟨h.os, h.tape, h.output, h.size, fun k hk _ _ => h.block k hk⟩
theorem Two.setG {g r : Nat} {a w : World} (h : Two g r a w) (j : Nat) (u : Value) : Two g r a (w.setCell ⟨g, j, none⟩ u) :=
  h.trans ⟨rfl, rfl, rfl, by simp [World.setCell], fun _ _ h1 _ => Below.heap_setCell _ _ _ _ h1⟩
theorem Two.setR {g r : Nat} {a w : World} (h : Two g r a w) (j : Nat) (u : Value) : Two g r a (w.setCell ⟨r, j, none⟩ u) :=
  h.trans ⟨rfl, rfl, rfl, by simp [World.setCell], fun _ _ _ h2 => Below.heap_setCell _ _ _ _ h2⟩
theorem Two.drew {g r : Nat} {a w : World} (h : Two g r a w) (n : Nat) : Two g r a (w.drewN n) := h.trans (.of_below (below_drewN w n))
theorem Two.drew1 {g r : Nat} {a w : World} (h : Two g r a w) : Two g r a w.drew := h.trans (.of_below ((Below.refl _ _).drew))
theorem Two.bel {g r : Nat} {a w w' : World} (h : Two g r a w) (k : Below w.heap.size w w') : Two g r a w' := h.trans (.of_below k)
theorem Two.blk {g r q : Nat} {w w' : World} {o : Obj} (h : Two g r w w') (b : w.heap[q]? = some o) (h1 : q ≠ g) (h2 : q ≠ r) : w'.heap[q]? = some o := (h.block q (lt_of b) h1 h2).trans b
theorem Two.below {g r B : Nat} {a w w' : World} (h : Two g r w w') (hb : Below B a w) (hB : B ≤ w.heap.size) (hg : B ≤ g) (hr : B ≤ r) : Below B a w' :=
  hb.trans ⟨h.os, h.tape, h.output, h.size, fun k hk => h.block k (by omega) (by omega) (by omega)⟩

theorem set0_blk {w : World} {g T : Nat} {u0 u1 : Value} (h : w.heap[g]? = some (.cells #[u0, u1] T)) (v : Value) : (w.setCell ⟨g, 0, none⟩ v).heap[g]? = some (.cells #[v, u1] T) := by
  rw [heap_setCell_same w g 0 #[u0, u1] T v h]; rfl
theorem setR_blk {w : World} {g r j : Nat} {o : Obj} (h : w.heap[g]? = some o) (hne : g ≠ r) (v : Value) : (w.setCell ⟨r, j, none⟩ v).heap[g]? = some o := by
  rw [Below.heap_setCell _ _ _ _ hne]; exact h
theorem Own.setG {lo g r rc j : Nat} {w : World} {xs : List Int} (h : Own lo w (.slice (some ⟨r, 0, none⟩) 4 rc) xs) (hne : g ≠ r) (u : Value) : Own lo (w.setCell ⟨g, j, none⟩ u) (.slice (some ⟨r, 0, none⟩) 4 rc) xs := by
  refine ⟨h.1, ?_⟩
  rcases h.2 with ⟨h', _⟩ | ⟨g', cap', cur, h', hb, hh, rest⟩
  · simp at h'
  · refine .inr ⟨g', cap', cur, h', hb, ?_, rest⟩
    simp only [Value.slice.injEq, Option.some.injEq, Addr.mk.injEq, and_true] at h'
    rw [Below.heap_setCell _ _ _ _ (by show g' ≠ g; omega)]
    exact hh
theorem Own.setR {lo r rc j : Nat} {w : World} {xs : List Int} (h : Own lo w (.slice (some ⟨r, 0, none⟩) 4 rc) xs) (hl : xs.length = 4) (n : Int) : Own lo (w.setCell ⟨r, j, none⟩ (.int .i64 n)) (.slice (some ⟨r, 0, none⟩) 4 rc) (xs.set j n) := by
  unfold Own at h ⊢
  rw [hl] at h
  have := (h.stored j (.int .i64 n)).1
  rw [List.length_set, hl]
  have e : (vals xs).set j (.int .i64 n) = vals (xs.set j n) := by simp [vals, List.map_set]
  rwa [e] at this
theorem Own.blk_ne {lo r rc g : Nat} {w : World} {xs : List Int} {cs : Array Value} {T : Nat} (h : Own lo w (.slice (some ⟨r, 0, none⟩) 4 rc) xs) (hg : w.heap[g]? = some (.cells cs T)) (hT : T ≠ 3) : g ≠ r := by
  rcases h.2 with ⟨h', _⟩ | ⟨g', cap', cur, h', hb, hh, rest⟩
  · simp at h'
  · simp only [Value.slice.injEq, Option.some.injEq, Addr.mk.injEq, and_true] at h'
    obtain ⟨rfl, _, _⟩ := h'
    intro e
    subst e
    rw [hh] at hg
    simp at hg
    exact hT hg.2.symm
theorem Own.reg {lo r rc : Nat} {w : World} {xs : List Int} (h : Own lo w (.slice (some ⟨r, 0, none⟩) 4 rc) xs) (hl : xs.length = 4) (j : Nat) (hj : j < 4) : w.cell? ⟨r, j, none⟩ = some (.int .i64 (rg xs (j : Int))) ∧ w.frozen? ⟨r, j, none⟩ = false := by
  unfold Own at h
  rw [hl] at h
  refine ⟨?_, h.frozenAt j⟩
  rw [h.cellAt j (by omega)]
  unfold rg vals
  rw [Int.toNat_natCast, List.getElem?_map, List.getElem?_eq_getElem (by omega)]
  simp [List.getD, show j < xs.length by omega]

theorem hp2d (w : World) (A B : Obj) : ((w.alloc A).drew.alloc B).heap[w.heap.size + 1]? = some B := hp2 w A B
theorem cells4 {w : World} {g T : Nat} {u0 u1 u2 u3 : Value} (h : w.heap[g]? = some (.cells #[u0, u1, u2, u3] T)) : w.cell? ⟨g, 0, none⟩ = some u0 ∧ w.cell? ⟨g, 1, none⟩ = some u1 ∧ w.cell? ⟨g, 2, none⟩ = some u2 ∧ w.cell? ⟨g, 3, none⟩ = some u3 := by
  have a := cell_of h 0; have b := cell_of h 1; have c := cell_of h 2; have d := cell_of h 3
  simp at a b c d; exact ⟨a, b, c, d⟩
theorem regs_none {x : Ins} (r : List Int) (t : Int) (h : x.op = 2 ∨ 8 ≤ x.op) : regsI x r t = r := regs_same (by omega) r t


end Go.Proofs.Ytjphamgkigekkaa
