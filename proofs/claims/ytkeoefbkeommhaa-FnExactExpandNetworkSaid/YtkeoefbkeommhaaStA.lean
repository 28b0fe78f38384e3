/-
  Slices of actors, and what the law's own functions do with them: copies, comparisons, sizes. No statement of the seat is proved here.
-/
import Derived.Test.YtkeoefbkeommhaaNetLw
import Derived.Test.YtkeoefbkeommhaaPrg
import Derived.Deep.RegionWith
import Derived.Deep.RegionHeld3
namespace Go.Proofs.Ytkeoefbkeommhaa
open Go.RowKit


/-- 'v' is a slice of actors that reads as 'xs'. -/
def SlA (w : World) (v : Value) (xs : List Act) : Prop :=
  ∃ (a : Option Addr) (cap : Nat), v = .slice a xs.length cap ∧ xs.length ≤ cap ∧ cap ≤ maxLen ∧ (a = none → cap = 0) ∧
    (xs = [] ∨ ∃ b off, a = some ⟨b, off, none⟩ ∧ b < w.heap.size ∧ ∀ i x, xs[i]? = some x → ∃ c, w.cell? ⟨b, off + i * 2, none⟩ = some (.int .i64 x.pc) ∧ w.cell? ⟨b, off + i * 2 + 1, none⟩ = some c ∧ Sl w c x.regs)
theorem SlA.below {w w' : World} {v : Value} {xs : List Act} (h : SlA w v xs) (hb : Below w.heap.size w w') : SlA w' v xs := by
  obtain ⟨a, cap, hv, h1, h2, h3, h4⟩ := h
  refine ⟨a, cap, hv, h1, h2, h3, ?_⟩
  rcases h4 with h4 | ⟨b, off, ha, hlt, hc⟩
  · exact .inl h4
  · refine .inr ⟨b, off, ha, Nat.lt_of_lt_of_le hlt hb.size, fun i x hi => ?_⟩
    obtain ⟨c, c0, c1, c2⟩ := hc i x hi
    exact ⟨c, (hb.cell hlt).trans c0, (hb.cell hlt).trans c1, c2.below hb⟩
theorem SlA.shape {w : World} {v : Value} {xs : List Act} (h : SlA w v xs) : ∃ a c, v = .slice a xs.length c := by
  obtain ⟨a, c, h, _⟩ := h; exact ⟨a, c, h⟩
theorem SlA.len {w : World} {v : Value} {xs : List Act} (h : SlA w v xs) : xs.length ≤ 9223372036854775807 := by
  obtain ⟨_, _, _, h1, h2, _⟩ := h; unfold maxLen at h2; omega
theorem SlA.atb {w : World} {a : Option Addr} {m cap : Nat} {ps : List Act} (h : SlA w (.slice a m cap) ps) {k : Nat} {x : Act} (hx : ps[k]? = some x) :
    ∃ b off c, a = some ⟨b, off, none⟩ ∧ b < w.heap.size ∧ w.cell? ⟨b, off + k * 2, none⟩ = some (.int .i64 x.pc) ∧ w.cell? ⟨b, off + k * 2 + 1, none⟩ = some c ∧ Sl w c x.regs := by
  obtain ⟨a', cap', hv, _, _, _, hr⟩ := h
  simp only [Value.slice.injEq] at hv
  obtain ⟨rfl, rfl, rfl⟩ := hv
  rcases hr with rfl | ⟨b, off, rfl, hb, hc⟩
  · simp at hx
  · obtain ⟨c, h0, h1, h2⟩ := hc k x hx
    exact ⟨b, off, c, rfl, hb, h0, h1, h2⟩
theorem RowA.step2 {g hi k : Nat} {w : World} {a b : Value} (h : RowA 2 g hi w k) (hc : ∃ y, w.cell? ⟨g, k * 2 + 1, none⟩ = some y) (hl : ∀ q, b.ownBlock = some q → hi ≤ q ∧ q < w.heap.size) (hh : hi ≤ w.heap.size) :
    RowA 2 g ((w.setCell ⟨g, k * 2, none⟩ a).setCell ⟨g, k * 2 + 1, none⟩ b).heap.size ((w.setCell ⟨g, k * 2, none⟩ a).setCell ⟨g, k * 2 + 1, none⟩ b) (k + 1) := by
  rw [show ((w.setCell ⟨g, k * 2, none⟩ a).setCell ⟨g, k * 2 + 1, none⟩ b).heap.size = w.heap.size by simp]
  refine h.step (fun i hi => ?_) (cell_on _ ?_) hl hh
  · rw [cell_off _ (by omega), cell_off _ (by omega)]
  · rw [show k * 2 + (2 - 1) = k * 2 + 1 by omega] at *
    rw [cell_off _ (by omega)]
    exact hc

def sumA (xs : List Act) : Nat := xs.length + (xs.map fun p => p.regs.length).sum
end Go.Proofs.Ytkeoefbkeommhaa
