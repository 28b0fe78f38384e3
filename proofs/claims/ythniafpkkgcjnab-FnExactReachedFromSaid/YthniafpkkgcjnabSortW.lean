/-
  The library's Contains and Sort on slices of ints. No statement of the seat is proved here.
-/
import Derived.Test.YthniafpkkgcjnabReachM
import Derived.Test.YthniafpkkgcjnabShelf
import Derived.Lib.SortBridge
import Derived.Maps.AppendAt
namespace Go.Proofs.Ythniafpkkgcjnab
open Go.RowKit

theorem icont_any (v : Value) (xs : List Int) (x : Int) (w : World) (h : Sl w v xs) :
    Calls Try.prog 72 #[v, .int .i64 x] w fun e w' => e = .returned (.bool (decide (x ∈ xs))) ∧ w = w' := by
  obtain ⟨a, cap, rfl, h1, h2, h3, hc⟩ := h
  by_cases h0 : xs = []
  · subst h0
    refine (Try.slices_Contains_int_empty a cap x w).mono ?_
    rintro e w' ⟨rfl, rfl⟩
    exact ⟨by simp, rfl⟩
  · rcases hc with hc | ⟨b, off, rfl, hb, hc⟩
    · exact absurd hc h0
    · refine (Try.slices_Contains_int b off xs.length cap xs x w (Nat.le_refl _) (by unfold maxLen at h2; omega) hc).mono ?_
      rintro e w' ⟨rfl, rfl⟩
      exact ⟨by rw [List.take_length]; simp, rfl⟩
theorem split_at {α : Type} {cs : List α} {o : Nat} (h : o < cs.length) : ∃ A c D, A.length = o ∧ cs = A ++ c :: D :=
  ⟨cs.take o, cs[o], cs.drop (o + 1), by rw [List.length_take]; omega, by rw [← List.drop_eq_getElem_cons h, List.take_append_drop]⟩
theorem own_setCells {lo g n cap T : Nat} : ∀ (vs : List Value) (o : Nat) (cs : List Value) (w : World), w.ownsRow lo T 1 (.slice (some ⟨g, 0, none⟩) n cap) n cs → o + vs.length ≤ cs.length → (w.setCells g o vs).ownsRow lo T 1 (.slice (some ⟨g, 0, none⟩) n cap) n (cs.take o ++ vs ++ cs.drop (o + vs.length))
  | [], o, cs, w, h, _ => by simpa [World.setCells] using h
  | v :: vs, o, cs, w, h, hl => by
    rw [List.length_cons] at hl
    have h1 := (h.stored o v).1
    have h2 := own_setCells vs (o + 1) (cs.set o v) _ h1 (by rw [List.length_set]; omega)
    obtain ⟨A, c, D, rfl, rfl⟩ := split_at (cs := cs) (o := o) (by omega)
    have e : ((A ++ c :: D).set A.length v).take (A.length + 1) ++ vs ++ ((A ++ c :: D).set A.length v).drop (A.length + 1 + vs.length) = (A ++ c :: D).take A.length ++ (v :: vs) ++ (A ++ c :: D).drop (A.length + (v :: vs).length) := by
      rw [List.set_append_right _ _ (Nat.le_refl _), Nat.sub_self, List.set_cons_zero, List.take_append, List.drop_append, List.take_append, List.drop_append, List.length_cons]
      simp [show A.length + 1 + vs.length - A.length = vs.length + 1 by omega, show A.length + (vs.length + 1) - A.length = vs.length + 1 by omega, List.drop_eq_nil_of_le (show A.length ≤ A.length + 1 + vs.length by omega), List.drop_eq_nil_of_le (show A.length ≤ A.length + (vs.length + 1) by omega), List.take_of_length_le (show A.length ≤ A.length + 1 by omega)]
    rw [e] at h2
    exact h2
theorem below_setCells {B g : Nat} {a : World} (hg : B ≤ g) : ∀ (vs : List Value) (o : Nat) (w : World), Below B a w → Below B a (w.setCells g o vs)
  | [], _, _, h => h
  | v :: vs, o, w, h => below_setCells hg vs (o + 1) (w.setCell ⟨g, o, none⟩ v) (h.setCell hg v)
theorem below_grow (w : World) (os : Array Obj) : Below w.heap.size w (Go.Sort.grow w os) :=
  ⟨rfl, rfl, rfl, by simp [Go.Sort.grow], fun k hk => Go.Sort.heap_grow_old w os hk⟩
theorem isort_any (lo : Nat) (v : Value) (xs : List Int) (w : World) (h : Own lo w v xs) (hl : xs.length ≤ 1000) :
    Calls Try.prog 103 #[v] w fun e w' => e = .returned (.tuple #[]) ∧ Own lo w' v (sortI xs) ∧ Below lo w w' := by
  by_cases h0 : xs = []
  · subst h0
    obtain ⟨a, c, rfl⟩ := h.shape
    refine (Try.slices_Sort_int_none a c w).mono ?_
    rintro e w' ⟨rfl, rfl⟩
    exact ⟨rfl, by simpa [sortI] using h, Below.refl _ _⟩
  · have hne : 0 < xs.length := List.length_pos_iff.2 h0
    rcases h.2 with ⟨_, hn⟩ | ⟨g, cap, cur, rfl, hlo, hg, _⟩
    · exact absurd hn (by omega)
    · have hgl := lt_of hg
      have HO : w.ownsRow lo 3 1 (.slice (some ⟨g, 0, none⟩) xs.length cap) xs.length (vals xs) := h
      have hH : Go.Sort.Holds (Value.int .i64) w g 0 xs.toArray := by
        intro j hj
        have hj' : j < xs.length := by simpa using hj
        refine ⟨?_, by rw [Nat.zero_add]; exact HO.frozenAt j⟩
        rw [Nat.zero_add, HO.cellAt j (by omega)]
        simp [vals, hj']
      refine (Try.slices_Sort_int g 0 cap xs w hH hgl (by omega)).mono ?_
      rintro e w' ⟨rfl, q, os, rfl⟩
      rw [Go.Lib.sorted_world (Value.int .i64) w g 0 q xs.toArray (xs.mergeSort fun x y => decide (x ≤ y)) os hH (by simp [List.length_mergeSort])]
      have hlen : ((xs.mergeSort fun x y => decide (x ≤ y)).map (Value.int .i64)).length = xs.length := by simp [List.length_mergeSort]
      have B1 : Below lo w (w.drewN q) := (below_drewN w q).mono (by omega)
      have O1 : (w.drewN q).ownsRow lo 3 1 (.slice (some ⟨g, 0, none⟩) xs.length cap) xs.length (vals xs) := row_below HO (below_drewN w q)
      have O2 := own_setCells ((xs.mergeSort fun x y => decide (x ≤ y)).map (Value.int .i64)) 0 (vals xs) _ O1 (by rw [hlen, vals_len]; omega)
      have B2 := below_setCells (B := lo) hlo ((xs.mergeSort fun x y => decide (x ≤ y)).map (Value.int .i64)) 0 _ B1
      rw [List.take_zero, List.nil_append, Nat.zero_add, hlen, List.drop_eq_nil_of_le (by rw [vals_len]; exact Nat.le_refl _), List.append_nil] at O2
      refine ⟨rfl, ?_, B2.trans ((below_grow _ os).mono (by have := B2.size; omega))⟩
      have O3 := row_below O2 (below_grow _ os)
      unfold Own
      rw [sortI_len]
      exact O3
theorem set0_one {w : World} {g T : Nat} {u : Value} (h : w.heap[g]? = some (.cells #[u] T)) (v : Value) : (w.setCell ⟨g, 0, none⟩ v).heap[g]? = some (.cells #[v] T) := by
  rw [heap_setCell_same w g 0 #[u] T v h]; rfl
theorem cells1 {w : World} {g T : Nat} {u : Value} (h : w.heap[g]? = some (.cells #[u] T)) : w.cell? ⟨g, 0, none⟩ = some u := by
  rw [cell_of h 0]; rfl
end Go.Proofs.Ythniafpkkgcjnab
