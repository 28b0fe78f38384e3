/-
  The model's drawn streams: a stream of tokens, no longer than asked, in memory of its own. No statement of the seat is proved here.
-/
import Derived.Test.YtokhdnejaecejaaCur
import Derived.Test.YtokhdnejaecejaaStream
namespace Go.Proofs.Ytokhdnejaecejaa
open Go.RowKit

theorem lit_own (w : World) (cs : List Int) (h : cs.length ≤ 1000) : Own w.heap.size (w.alloc (.cells (vals cs).toArray 3)) (.slice (some ⟨w.heap.size, 0, none⟩) cs.length cs.length) cs := by
  have := World.ownsRow_lit (base := w.heap.size) (e := 3) (size := 1) w (vals cs).toArray cs.length (Nat.le_refl _) (by unfold maxLen; omega) (by simp [vals])
  simpa [Own] using this

theorem own_other {lo b : Nat} {w w' : World} {v : Value} {xs : List Int} (h : Own lo w v xs) (hg : w.grownBy w' (some b)) (hb : b < lo) : Own lo w' v xs := by
  refine World.ownsRow.kept h hg ?_
  cases hv : v.ownBlock with
  | none => exact .inl rfl
  | some k => right; intro e; have := h.lt k hv; simp at e; omega
theorem grown_app {w w2 w3 : World} {b : Nat} {v : Value} {o : Obj} (hg : w.grownBy w2 (some b)) (h : (w2.alloc o).grownBy w3 v.ownBlock) (hv : ∀ k, v.ownBlock = some k → w.heap.size ≤ k) : w.grownBy w3 (some b) := by
  have hs := hg.size
  have hs3 := h.size
  simp at hs3
  refine ⟨h.os.trans hg.os, h.tape.trans hg.tape, h.output.trans hg.output, by omega, fun k hk hne => ?_⟩
  rw [h.block k (by simp; omega) (fun e => by have := hv k e.symm; omega), Below.heap_alloc _ _ _ (by omega)]
  exact hg.block k hk hne
theorem cur_app {w2 w3 : World} {b : Nat} {bs : List Int} {v : Value} {o : Obj} (hc : Cur w2 b bs) (h : (w2.alloc o).grownBy w3 v.ownBlock) (hv : ∀ k, v.ownBlock = some k → b < k) : Cur w3 b bs :=
  (hc.alloc o).below ((Below.refl _ _).grown h (by have := hc.lt; simp; omega) (fun k e => by have := hv k e; omega))

end Go.Proofs.Ytokhdnejaecejaa
