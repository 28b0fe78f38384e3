/-
  Words moved together: rows that grow, and the like. No statement of the seat is proved here.
-/
import Derived.Test.YtkeoefbkeommhaaLawKit
import Derived.Test.YtkeoefbkeommhaaMlt
import Derived.Maps.AppendAt
namespace Go.Proofs.Ytkeoefbkeommhaa
open Go.RowKit

theorem wp_open' {P : Program} {s : Code} {Q : Exit → Go.Act → World → Prop} {a : Go.Act} {w : World} (h : ∀ K' : Go.Act → World → Prop, (∀ a w, Q .normal a w → K' a w) → s.wp P (Exit.then K' Q) a w) : s.wp P Q a w := by
  refine wp_mono (h (fun a w => Q .normal a w) (fun _ _ q => q)) ?_
  intro e a' w' hq
  cases e <;> exact hq
theorem fam_hi {lo : Nat} {w : World} {us : List Value} {xss : List (List Int)} (h : Fam lo w us xss) : ∀ x ∈ us, ∀ q, x.ownBlock = some q → q < w.heap.size := by
  intro x hx q e
  obtain ⟨i, hi⟩ := List.getElem?_of_mem hx
  exact ((h.get hi).lt q e).2
theorem al_keep {w : World} {g : Nat} {o p : Obj} (h : w.heap[g]? = some p) : (w.alloc o).heap[g]? = some p := by
  obtain ⟨hl, _⟩ := Array.getElem?_eq_some_iff.1 h
  exact (Below.heap_alloc _ _ _ hl).trans h
theorem rowT_below {lo T m : Nat} {w w' : World} {x : Value} {L : List Value} (h : w.ownsRow lo T 1 x m L) (hb : Below w.heap.size w w') : w'.ownsRow lo T 1 x m L := by
  refine ⟨h.1, ?_⟩
  rcases h.2 with hn | ⟨g, cap, cur, rfl, hbb, hg, rest⟩
  · exact .inl hn
  · exact .inr ⟨g, cap, cur, rfl, hbb, blk_in hg hb, rest⟩
theorem own_far {lo g T : Nat} {w w' : World} {v : Value} {xs : List Int} {cs : Array Value} (h : Own lo w v xs) (hg : w.heap[g]? = some (.cells cs T)) (h2 : T ≠ 3) (hb : ∀ k, k < w.heap.size → k ≠ g → w'.heap[k]? = w.heap[k]?) : Own lo w' v xs := by
  refine ⟨h.1, ?_⟩
  rcases h.2 with hn | ⟨q, cap, cur, rfl, hbb, hq, rest⟩
  · exact .inl hn
  · refine .inr ⟨q, cap, cur, rfl, hbb, ?_, rest⟩
    rw [hb q (lt_of hq) (fun e => by subst e; rw [hq] at hg; simp at hg; exact h2 hg.2.symm)]
    exact hq
/-- What a growth of a row of another type leaves of a row of ints. -/
theorem own_grown {lo lo2 T m : Nat} {w w' : World} {v o : Value} {xs : List Int} {L : List Value} {A : Obj} (h : Own lo w v xs) (hr : w.ownsRow lo2 T 1 o m L) (hT : T ≠ 3) (hg : (w.alloc A).grownBy w' o.ownBlock) : Own lo w' v xs := by
  have h1 := h.below ((Below.refl w.heap.size w).al A)
  rcases hr.2 with ⟨rfl, _⟩ | ⟨r, cap, cur, rfl, hbb, hq, rest⟩
  · refine ⟨h1.1, ?_⟩
    rcases h1.2 with hn | ⟨q, cap, cur, rfl, hb, hq, rest⟩
    · exact .inl hn
    · exact .inr ⟨q, cap, cur, rfl, hb, by rw [hg.block q (lt_of hq) (by simp [Value.ownBlock])]; exact hq, rest⟩
  · exact own_far h1 (blk_in hq ((Below.refl w.heap.size w).al A)) hT (fun k hk hne => hg.block k hk (by simp only [Value.ownBlock, ne_eq, Option.some.injEq]; exact hne))
theorem lit_s (w : World) (y : Value) : ∀ j u, [y][j]? = some u → (w.alloc (.cells #[y] 26)).cell? ((⟨w.heap.size, 0, none⟩ : Addr).add j) = some u := by
  intro j u hj
  rw [Addr.add_lit, Nat.zero_add, cell_of (hp1 w _)]
  rw [← Array.getElem?_toList]; exact hj
theorem Fam.snoc {lo : Nat} {w w1 : World} {us : List Value} {xss : List (List Int)} {x : Value} {xs : List Int} (h : Fam lo w us xss) (hk : ∀ (u : Value) (ys : List Int), Own lo w u ys → Own lo w1 u ys) (ho : Own lo w1 x xs) (ha : ∀ u ys, Own lo w u ys → u ∈ us → Apart u x) : Fam lo w1 (us ++ [x]) (xss ++ [xs]) := by
  have hl := h.len
  have one : ∀ (α : Type) (l : List α) (y u : α) (i : Nat), (l ++ [y])[i]? = some u → (i < l.length ∧ l[i]? = some u) ∨ (i = l.length ∧ u = y) := by
    intro α l y u i e
    by_cases hi : i < l.length
    · rw [List.getElem?_append_left hi] at e; exact .inl ⟨hi, e⟩
    · rw [List.getElem?_append_right (by omega)] at e
      rcases q : i - l.length with _ | q'
      · rw [q] at e; simp at e; exact .inr ⟨by omega, e.symm⟩
      · rw [q] at e; simp at e
  have get : ∀ i u, us[i]? = some u → Own lo w u (xss.getD i []) ∧ u ∈ us := fun i u e => ⟨h.get e, List.mem_of_getElem? e⟩
  refine ⟨by simp [hl], ?_, ?_⟩
  · intro i u ys h1 h2
    rcases one _ _ _ _ _ h1 with ⟨a, b⟩ | ⟨a, rfl⟩
    · rcases one _ _ _ _ _ h2 with ⟨a', b'⟩ | ⟨a', rfl⟩
      · exact hk u ys (h.own i u ys b b')
      · omega
    · rcases one _ _ _ _ _ h2 with ⟨a', b'⟩ | ⟨a', rfl⟩
      · omega
      · exact ho
  · intro i j u u' h1 h2 hij
    rcases one _ _ _ _ _ h1 with ⟨a, b⟩ | ⟨a, rfl⟩
    · rcases one _ _ _ _ _ h2 with ⟨a', b'⟩ | ⟨a', rfl⟩
      · exact h.apart i j u u' b b' hij
      · have q := get i u b; exact ha u _ q.1 q.2
    · rcases one _ _ _ _ _ h2 with ⟨a', b'⟩ | ⟨a', rfl⟩
      · have q := get j u' b'; exact (ha u' _ q.1 q.2).symm
      · omega
/-- Streams that have been made so far, in a slice that grows. -/
def GrowR (lo k : Nat) (w : World) (o : Value) (xss : List (List Int)) : Prop := ∃ us, w.ownsRow lo 26 1 o k us ∧ Fam lo w us (xss.take k)
theorem GrowR.shape {lo k : Nat} {w : World} {o : Value} {xss : List (List Int)} (h : GrowR lo k w o xss) : ∃ a c, o = .slice a k c := by
  obtain ⟨us, h1, _⟩ := h
  rcases h1.2 with ⟨rfl, rfl⟩ | ⟨g, cap, cur, rfl, _⟩
  · exact ⟨_, _, rfl⟩
  · exact ⟨_, _, rfl⟩
theorem GrowR.below {lo k : Nat} {w w' : World} {o : Value} {xss : List (List Int)} (h : GrowR lo k w o xss) (hb : Below w.heap.size w w') : GrowR lo k w' o xss := by
  obtain ⟨us, h1, h2⟩ := h
  exact ⟨us, rowT_below h1 hb, h2.below hb⟩
theorem GrowR.step {lo k b : Nat} {w3 w4 : World} {o o' x : Value} {xss : List (List Int)} {row : List Int} {us : List Value} (h1 : w3.ownsRow lo 26 1 o k us) (hF : Fam lo w3 us (xss.take k)) (hx : Own b w3 x row) (hb : ∀ u q, u ∈ us → u.ownBlock = some q → q < b) (hlo : lo ≤ b) (hrow : xss[k]? = some row)
    (hown : w4.ownsRow lo 26 1 o' (k + 1) (us ++ [x])) (hg : (w3.alloc (.cells #[x] 26)).grownBy w4 o.ownBlock) : GrowR lo (k + 1) w4 o' xss := by
  have hq := (List.getElem?_eq_some_iff.1 hrow)
  have e : xss.take (k + 1) = xss.take k ++ [row] := by rw [List.take_succ_eq_append_getElem hq.1, hq.2]
  refine ⟨us ++ [x], hown, ?_⟩
  rw [e]
  refine hF.snoc (fun u ys q => own_grown q h1 (by decide) hg) (own_grown (hx.mono hlo) h1 (by decide) hg) (fun u ys q hu => ?_)
  cases q1 : u.ownBlock with
  | none => exact .inl q1
  | some c =>
    right
    rw [q1]
    intro q2
    have := hb u c hu q1
    have := (hx.lt c q2.symm).1
    omega
theorem GrowR.rows {lo ll : Nat} {w : World} {o : Value} {xss : List (List Int)} (h : GrowR lo ll w o xss) (hx : xss.length = ll) : RowsH lo w.heap.size w o xss := by
  obtain ⟨us, h1, h3⟩ := h
  rw [List.take_of_length_le (by omega)] at h3
  have hF := h3.snoc (w1 := w) (x := .slice none 0 0) (xs := []) (fun u ys q => q) ⟨rfl, .inl ⟨rfl, rfl⟩⟩ (fun u ys q _ => by
      cases q1 : u.ownBlock with
      | none => exact .inl q1
      | some c => right; rw [q1]; simp [Value.ownBlock])
  refine ⟨us, ?_, hF, fam_hi hF⟩
  have hl := h1.1
  rw [Nat.mul_one] at hl
  rcases h1.2 with ⟨rfl, h0⟩ | ⟨g, cap, cur, rfl, hbb, hg, h2, h4, h5, h6⟩
  · exact .inl ⟨rfl, List.length_eq_zero_iff.1 (by omega)⟩
  · exact .inr ⟨g, cap, cur, by rw [hl], hbb, lt_of hg, by omega, h4, hg, by rw [hl]; rw [Nat.mul_one] at h6; exact h6⟩
def toksL (n : Net) : List (List Int) := n.links.map Lnk.tok
theorem sumT_le {c : Nat} : ∀ (xss : List (List Int)), (∀ xs ∈ xss, xs.length ≤ c) → sumT xss ≤ c * xss.length
  | [], _ => by simp [sumT]
  | x :: xs, h => by
    have h1 := sumT_le xs (fun y hy => h y (List.mem_cons_of_mem _ hy))
    have h2 := h x (List.mem_cons_self ..)
    unfold sumT at h1 ⊢
    rw [List.map_cons, List.sum_cons, List.length_cons, Nat.mul_add, Nat.mul_one]
    show stR x + _ ≤ _
    unfold stR at h1 ⊢
    omega
theorem tok_isS {n : Net} (h : okN n = true) {l : Lnk} (hl : l ∈ n.links) : isS l.tok = true := by
  have := ((okN_iff n).1 h).2.1 l hl
  have h2 := this.1
  unfold linkL at h2
  rw [Bool.and_eq_true] at h2
  exact h2.1
end Go.Proofs.Ytkeoefbkeommhaa
