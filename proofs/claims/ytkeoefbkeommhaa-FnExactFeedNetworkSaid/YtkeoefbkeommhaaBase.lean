/-
  Words for slices of ints: what a slice value reads as, and what the call itself owns. No statement of the seat is proved here.
-/
import Derived.Test.YtkeoefbkeommhaaProg
import Derived.WalkKit
import Derived.WalkSpells
import Derived.WalkLawsBesides
import Derived.Lib.Hide
import Derived.KernelRfl
namespace Go.Proofs.Ytkeoefbkeommhaa
open Go.RowKit

def vals (xs : List Int) : List Value := xs.map (Value.int .i64)

/-- 'v' is a slice of ints that reads as 'xs' in 'w'. -/
def Sl (w : World) (v : Value) (xs : List Int) : Prop :=
  ∃ (a : Option Addr) (cap : Nat), v = .slice a xs.length cap ∧ xs.length ≤ cap ∧ cap ≤ maxLen ∧ (a = none → cap = 0) ∧
    (xs = [] ∨ ∃ b off, a = some ⟨b, off, none⟩ ∧ b < w.heap.size ∧ ∀ i, i < xs.length → w.cell? ⟨b, off + i, none⟩ = some (.int .i64 (xs.getD i 0)))

/-- 'v' is a slice of ints of the call's own, in a block from 'lo' on, and reads as 'xs'. -/
def Own (lo : Nat) (w : World) (v : Value) (xs : List Int) : Prop := w.ownsRow lo 3 1 v xs.length (vals xs)

/-- Two slice values lie in two blocks. -/
def Apart (v u : Value) : Prop := v.ownBlock = none ∨ v.ownBlock ≠ u.ownBlock

theorem Sl.below {w w' : World} {v : Value} {xs : List Int} (h : Sl w v xs) (hb : Below w.heap.size w w') : Sl w' v xs := by
  obtain ⟨a, cap, hv, h1, h2, h3, h4⟩ := h
  refine ⟨a, cap, hv, h1, h2, h3, ?_⟩
  rcases h4 with h4 | ⟨b, off, ha, hlt, hc⟩
  · exact .inl h4
  · exact .inr ⟨b, off, ha, Nat.lt_of_lt_of_le hlt hb.size, fun i hi => (hb.cell (p := ⟨b, off + i, none⟩) hlt).trans (hc i hi)⟩

theorem Own.lt {lo : Nat} {w : World} {v : Value} {xs : List Int} (h : Own lo w v xs) : ∀ k, v.ownBlock = some k → lo ≤ k ∧ k < w.heap.size :=
  World.ownsRow.lt h

theorem Own.below {lo : Nat} {w w' : World} {v : Value} {xs : List Int} (h : Own lo w v xs) (hb : Below w.heap.size w w') : Own lo w' v xs := by
  have hl := Own.lt h
  refine ⟨h.1, ?_⟩
  rcases h.2 with hn | ⟨g, cap, cur, rfl, hbb, hg, rest⟩
  · exact .inl hn
  · refine .inr ⟨g, cap, cur, rfl, hbb, ?_, rest⟩
    rw [hb.block g (hl g rfl).2]
    exact hg

theorem Own.kept {lo : Nat} {w w' : World} {v u : Value} {xs : List Int} (h : Own lo w v xs) (hg : w.grownBy w' u.ownBlock) (ha : Apart v u) : Own lo w' v xs :=
  World.ownsRow.kept h hg ha

theorem Own.mono {lo lo' : Nat} {w : World} {v : Value} {xs : List Int} (h : Own lo w v xs) (hl : lo' ≤ lo) : Own lo' w v xs := by
  refine ⟨h.1, ?_⟩
  rcases h.2 with hn | ⟨g, cap, cur, rfl, hbb, hg, rest⟩
  · exact .inl hn
  · exact .inr ⟨g, cap, cur, rfl, by omega, hg, rest⟩

theorem Own.sl {lo : Nat} {w : World} {v : Value} {xs : List Int} (h : Own lo w v xs) : Sl w v xs := by
  have hl := Own.lt h
  have hc := fun g hg => World.ownsRow.cells (g := g) h hg
  rcases h.2 with ⟨rfl, hn⟩ | ⟨g, cap, cur, rfl, hbb, hg, h1, h2, _⟩
  · have hx : xs = [] := List.eq_nil_of_length_eq_zero hn
    subst hx
    exact ⟨none, 0, rfl, Nat.le_refl _, by simp, fun _ => rfl, .inl rfl⟩
  · refine ⟨_, cap, rfl, h1, h2, (fun h => by cases h), .inr ⟨g, 0, rfl, (hl g rfl).2, fun i hi => ?_⟩⟩
    have := hc g rfl i (.int .i64 (xs.getD i 0)) (by simp [vals, List.getD, hi])
    rwa [Addr.add_lit] at this

theorem Apart.of_lt {lo lo' : Nat} {w w' : World} {v u : Value} {xs ys : List Int} (h : Own lo w v xs) (k : Own lo' w' u ys) (hh : w.heap.size ≤ lo') : Apart v u := by
  cases hv : v.ownBlock with
  | none => exact .inl hv
  | some g =>
    refine .inr fun e => ?_
    have h1 := Own.lt h g hv
    have h2 := Own.lt k g (by rw [← e, hv])
    omega

theorem Apart.symm {v u : Value} (h : Apart v u) : Apart u v := by
  unfold Apart at *
  cases hu : u.ownBlock with
  | none => exact .inl rfl
  | some g =>
    refine .inr fun e => ?_
    rcases h with h | h
    · rw [h] at e; cases e
    · exact h (by rw [hu]; exact e.symm)

theorem Below.toDraw {B : Nat} {w w' : World} (h : Below B w w') (n : Nat) : Below B w (w'.drewN n) := ⟨h.os, h.tape, h.output, h.size, h.block⟩

theorem info : (Try.prog.info? 3).map (fun i => (i.zero, i.size, i.bytes)) = some (some (.int .i64 0), 1, 8) := by kernel_rfl


/-- From the frame's own word for a slice of ints that came in. -/
theorem sl_of {w : World} {a : Option Addr} {len cap : Nat} {zs : List Int}
    (h : (a = none ∧ len = 0 ∧ cap = 0 ∧ zs = []) ∨ ∃ x, a = some x ∧ len ≤ cap ∧ cap ≤ maxLen ∧ zs.length = cap ∧ (∀ i, i < zs.length → w.cell? (x.add i) = some (.int .i64 (zs.getD i 0))) ∧ ∀ n ∈ zs, (Lit.int .i64 n).wf = true) :
    Sl w (.slice a len cap) (zs.take len) := by
  rcases h with ⟨rfl, rfl, rfl, rfl⟩ | ⟨x, rfl, hl, hm, hz, hc, _⟩
  · exact ⟨none, 0, rfl, Nat.le_refl _, by simp, fun _ => rfl, .inl rfl⟩
  · have hlen : (zs.take len).length = len := by simp; omega
    refine ⟨some x, cap, by rw [hlen], by omega, hm, (fun h => by cases h), ?_⟩
    by_cases h0 : len = 0
    · left; subst h0; simp
    · right
      obtain ⟨b, off, spot⟩ := x
      have h1 := hc 0 (by omega)
      have hadd : ∀ i, (⟨b, off, none⟩ : Addr).add i = ⟨b, off + i, none⟩ := fun i => Addr.add_lit _ _ _
      have hspot : spot = none := by simpa [Addr.add] using World.cell?_spot h1
      subst hspot
      refine ⟨b, off, rfl, ?_, fun i hi => ?_⟩
      · have := World.block_lt_of_cell? w _ h1
        rw [hadd] at this
        exact this
      · have h2 := hc i (by omega)
        rw [hadd] at h2
        rw [h2]
        simp only [List.getD_eq_getElem?_getD, List.getElem?_take]
        rw [if_pos (by omega)]

end Go.Proofs.Ytkeoefbkeommhaa
