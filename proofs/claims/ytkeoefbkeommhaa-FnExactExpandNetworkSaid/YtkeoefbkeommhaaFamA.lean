/-
  A family of rows of ints of the call's own, no two in one block. No statement of the seat is proved here.
-/
import Derived.Test.YtkeoefbkeommhaaRgf
namespace Go.Proofs.Ytkeoefbkeommhaa
open Go.RowKit

/-- The values 'fs' are rows of the call's own that read as 'xss'; no two of them lie in one block. -/
structure Fam (lo : Nat) (w : World) (fs : List Value) (xss : List (List Int)) : Prop where
  len : fs.length = xss.length
  own : ∀ (i : Nat) (u : Value) (xs : List Int), fs[i]? = some u → xss[i]? = some xs → Own lo w u xs
  apart : ∀ (i j : Nat) (u u' : Value), fs[i]? = some u → fs[j]? = some u' → i ≠ j → Apart u u'

theorem Fam.below {lo : Nat} {w w' : World} {fs : List Value} {xss : List (List Int)} (h : Fam lo w fs xss) (hb : Below w.heap.size w w') : Fam lo w' fs xss :=
  ⟨h.len, fun i u xs h1 h2 => (h.own i u xs h1 h2).below hb, h.apart⟩
theorem Fam.get {lo : Nat} {w : World} {fs : List Value} {xss : List (List Int)} (h : Fam lo w fs xss) {i : Nat} {u : Value} (hu : fs[i]? = some u) : Own lo w u (xss.getD i []) := by
  have hi : i < xss.length := by rw [← h.len]; exact (List.getElem?_eq_some_iff.1 hu).1
  rw [List.getD_eq_getElem?_getD, List.getElem?_eq_getElem hi]
  exact h.own i u _ hu (List.getElem?_eq_getElem hi)
theorem Fam.mono {lo lo' : Nat} {w : World} {fs : List Value} {xss : List (List Int)} (h : Fam lo w fs xss) (hl : lo' ≤ lo) : Fam lo' w fs xss :=
  ⟨h.len, fun i u xs h1 h2 => (h.own i u xs h1 h2).mono hl, h.apart⟩
/-- One row is written, or laid anew; the others stay. -/
theorem Fam.upd {lo : Nat} {w w' : World} {fs : List Value} {xss : List (List Int)} {j : Nat} {u u' : Value} {xs' : List Int} (h : Fam lo w fs xss) (hj : fs[j]? = some u)
    (hk : ∀ (v : Value) (xs : List Int), Own lo w v xs → Apart v u → Own lo w' v xs) (ho : Own lo w' u' xs') (hb : u'.ownBlock = u.ownBlock ∨ ∀ k, u'.ownBlock = some k → w.heap.size ≤ k) : Fam lo w' (fs.set j u') (xss.set j xs') := by
  have hjl := (List.getElem?_eq_some_iff.1 hj).1
  have hap : ∀ (i : Nat) (v : Value), fs[i]? = some v → i ≠ j → Apart v u' := by
    intro i v hv hij
    have h1 := h.apart i j v u hv hj hij
    rcases hb with hb | hb
    · unfold Apart at h1 ⊢; rw [hb]; exact h1
    · cases e : v.ownBlock with
      | none => exact .inl e
      | some k =>
        right
        rw [e]
        intro e2
        have := hb k e2.symm
        have := ((h.get hv).lt k e).2
        omega
  refine ⟨by rw [List.length_set, List.length_set]; exact h.len, ?_, ?_⟩
  · intro i v xs hv hx
    rw [List.getElem?_set] at hv hx
    by_cases e : j = i
    · rw [if_pos e, if_pos hjl] at hv
      rw [if_pos e, if_pos (by rw [← h.len]; exact hjl)] at hx
      obtain rfl := Option.some.inj hv
      obtain rfl := Option.some.inj hx
      exact ho
    · rw [if_neg e] at hv hx
      exact hk v xs (h.own i v xs hv hx) (h.apart i j v u hv hj (fun q => e q.symm))
  · intro i i' v v' hv hv' hii
    rw [List.getElem?_set] at hv hv'
    by_cases e : j = i
    · rw [if_pos e, if_pos hjl] at hv
      obtain rfl := Option.some.inj hv
      rw [if_neg (by omega)] at hv'
      have := hap i' v' hv' (by omega)
      rcases this with q | q
      · by_cases q2 : u'.ownBlock = none
        · exact .inl q2
        · right; rw [q]; exact q2
      · by_cases q2 : u'.ownBlock = none
        · exact .inl q2
        · exact .inr (fun e => q e.symm)
    · rw [if_neg e] at hv
      by_cases e' : j = i'
      · rw [if_pos e', if_pos hjl] at hv'
        obtain rfl := Option.some.inj hv'
        exact hap i v hv (by omega)
      · rw [if_neg e'] at hv'
        exact h.apart i i' v v' hv hv' hii
/-- A store into a block that is no row of ints leaves the rows. -/
theorem Fam.setB {lo B T j : Nat} {w : World} {fs : List Value} {xss : List (List Int)} {cs : Array Value} (h : Fam lo w fs xss) (hB : w.heap[B]? = some (.cells cs T)) (hT : T ≠ 3) (v : Value) : Fam lo (w.setCell ⟨B, j, none⟩ v) fs xss := by
  refine ⟨h.len, fun i u xs h1 h2 => ?_, h.apart⟩
  have hv := h.own i u xs h1 h2
  refine ⟨hv.1, ?_⟩
  rcases hv.2 with hn | ⟨q, cap, cur, rfl, hbb, hq, rest⟩
  · exact .inl hn
  · refine .inr ⟨q, cap, cur, rfl, hbb, ?_, rest⟩
    rw [Below.heap_setCell _ _ _ _ (by
      show q ≠ B
      intro e
      subst e
      rw [hq] at hB
      simp at hB
      exact hT hB.2.symm)]
    exact hq
theorem own_blk_ne {lo g T : Nat} {w : World} {u : Value} {xs : List Int} {cs : Array Value} (h : Own lo w u xs) (hg : w.heap[g]? = some (.cells cs T)) (hT : T ≠ 3) : some g ≠ u.ownBlock := by
  rcases h.2 with ⟨rfl, _⟩ | ⟨k, cap, cur, rfl, _, hk, _⟩
  · simp [Value.ownBlock]
  · intro e
    simp [Value.ownBlock] at e
    subst e
    rw [hk] at hg
    simp at hg
    exact hT hg.2.symm
end Go.Proofs.Ytkeoefbkeommhaa
