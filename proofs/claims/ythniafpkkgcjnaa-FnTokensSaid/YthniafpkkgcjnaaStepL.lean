/-
  What both StepActor answer, as the law's walk calls it. No statement of the seat is proved here.
-/
import Derived.Test.YthniafpkkgcjnaaStepJ
import Derived.Test.YthniafpkkgcjnaaStepK
namespace Go.Proofs.Ythniafpkkgcjnaa
open Go.RowKit
theorem setN2 {w : World} {g T : Nat} {u0 u1 v0 v1 : Value} (h : w.heap[g]? = some (.cells #[u0, u1] T)) : ((w.setCell ⟨g, 0, none⟩ v0).setCell ⟨g, 1, none⟩ v1).heap[g]? = some (.cells #[v0, v1] T) := by
  have h1 := heap_setCell_same w g 0 #[u0, u1] T v0 h
  rw [heap_setCell_same _ g 1 _ T v1 h1]; rfl
theorem Own.setA {lo : Nat} {w : World} {v : Value} {xs : List Int} (h : Own lo w v xs) {a : Addr} (u : ∀ k, v.ownBlock = some k → k < a.block) (x : Value) : Own lo (w.setCell a x) v xs :=
  ownsRow_setCell_other h (fun e => Nat.lt_irrefl _ (u _ e)) x
theorem OwnI.setA {lo : Nat} {w : World} {v : Value} {xs : List Ins} (h : OwnI lo w v xs) {a : Addr} (u : ∀ k, v.ownBlock = some k → k < a.block) (x : Value) : OwnI lo (w.setCell a x) v xs :=
  ownsRow_setCell_other h (fun e => Nat.lt_irrefl _ (u _ e)) x
theorem Own.setN {lo : Nat} {w : World} {v : Value} {xs : List Int} {a : Addr} {x : Value} (u : ∀ k, v.ownBlock = some k → k ≠ a.block) (h : Own lo w v xs) : Own lo (w.setCell a x) v xs :=
  ownsRow_setCell_other h (fun e => u _ e rfl) x
theorem OwnI.setN {lo : Nat} {w : World} {v : Value} {xs : List Ins} {a : Addr} {x : Value} (u : ∀ k, v.ownBlock = some k → k ≠ a.block) (h : OwnI lo w v xs) : OwnI lo (w.setCell a x) v xs :=
  ownsRow_setCell_other h (fun e => u _ e rfl) x
theorem Own.alN {lo : Nat} {w : World} {v : Value} {xs : List Int} {o : Obj} (h : Own lo w v xs) : Own lo (w.alloc o) v xs := h.below ((Below.refl _ _).al _)
theorem OwnI.alN {lo : Nat} {w : World} {v : Value} {xs : List Ins} {o : Obj} (h : OwnI lo w v xs) : OwnI lo (w.alloc o) v xs := h.below ((Below.refl _ _).al _)
theorem istepR_any (v u : Value) (p : Prg) (a : Act) (t : Int) (w : World) (h : PrgV w v p) (hk : ActV w u a) (_ht : (Lit.int .i64 t).wf = true) :
    Calls Try.prog 28 #[v, u, .int .i64 t] w fun e w' => ∃ v', e = .returned (.tuple #[v', .int .i64 (stepActorR1 p a t), .bool (stepActorR2 p a t)]) ∧ ActO w.heap.size w' v' (stepActorR0 p a t) ∧ Below w.heap.size w w' := istep_any v u p a t w h hk
theorem sstepR_any (v u : Value) (p : Prg) (a : Act) (t : Int) (w : World) (h : PrgV w v p) (hk : ActV w u a) (_ht : (Lit.int .i64 t).wf = true) :
    Calls Try.prog 38 #[v, u, .int .i64 t] w fun e w' => ∃ v', e = .returned (.tuple #[v', .int .i64 (stepActorR1 p a t), .bool (stepActorR2 p a t)]) ∧ ActO w.heap.size w' v' (stepActorR0 p a t) ∧ Below w.heap.size w w' := sstep_any v u p a t w h hk
end Go.Proofs.Ythniafpkkgcjnaa
