/-
  What the model's SampleProgram leaves. No statement of the seat is proved here.
-/
import Derived.Test.YthniafpkkgcjnaaMakeP
namespace Go.Proofs.Ythniafpkkgcjnaa
open Go.RowKit

theorem allocs_old : ∀ (os : List Obj) (w : World) (k : Nat), k < w.heap.size → (os.foldl World.alloc w).heap[k]? = w.heap[k]?
  | [], _, _, _ => rfl
  | o :: os, w, k, h => by
    rw [List.foldl_cons, allocs_old os (w.alloc o) k (by simp; omega)]
    exact Below.heap_alloc w o k h
theorem allocs_at : ∀ (os : List Obj) (w : World) (i : Nat), i < os.length → (os.foldl World.alloc w).heap[w.heap.size + i]? = os[i]?
  | [], _, _, h => by simp at h
  | o :: os, w, 0, _ => by
    rw [List.foldl_cons, Nat.add_zero, allocs_old os (w.alloc o) _ (by simp)]
    exact hp1 w o
  | o :: os, w, i + 1, h => by
    rw [List.foldl_cons, show w.heap.size + (i + 1) = (w.alloc o).heap.size + i by simp; omega, allocs_at os (w.alloc o) i (by simpa using h)]
    simp
theorem Sl_lit {W : World} {b n : Nat} {cs : Array Value} {r : List Int} (h : W.heap[b]? = some (.cells cs 3)) (hc : cs.toList = vals r) (hn : n = r.length) (hm : n ≤ 100) : Sl W (.slice (some ⟨b, 0, none⟩) n n) r := by
  subst hn
  refine ⟨_, _, rfl, Nat.le_refl _, by unfold maxLen; omega, (fun e => by cases e), .inr ⟨b, 0, rfl, lt_of h, fun i hi => ?_⟩⟩
  rw [Nat.zero_add, cell_of h, ← Array.getElem?_toList, hc]
  simp [vals, List.getD, hi]
theorem SlS_lit {W : World} {B n T : Nat} {us : Array Value} {R : List (List Int)} (h : W.heap[B]? = some (.cells us T)) (hn : n = R.length) (hm : n ≤ 100) (hr : ∀ (i : Nat) (r : List Int), R[i]? = some r → ∃ u, us[i]? = some u ∧ Sl W u r) : SlS W (.slice (some ⟨B, 0, none⟩) n n) R := by
  subst hn
  refine ⟨_, _, rfl, Nat.le_refl _, by unfold maxLen; omega, (fun e => by cases e), .inr ⟨B, 0, rfl, lt_of h, fun i r hi => ?_⟩⟩
  obtain ⟨u, h1, h2⟩ := hr i r hi
  exact ⟨u, by rw [Nat.zero_add, cell_of h]; exact h1, h2⟩


theorem sampleProgram_len0 (s : ByteArray) : (sampleProgramR0 s).code.length ≤ 1048576 := by
  unfold sampleProgramR0 sampleR
  repeat' split
  all_goals simp [sc0, sc1, sc2, sc3, sc4, sc5, sc6, sc7, sc8, sc9, sc10]


theorem rows0 (w : World) : SlS ((((w.alloc (.cells #[.int .i64 0, .int .i64 0, .slice none 0 0] 31)).alloc (.cells #[.int .i64 1] 3)).alloc (.cells #[.int .i64 2] 3)).alloc (.cells #[.slice (some ⟨w.heap.size + 1, 0, none⟩) 1 1, .slice (some ⟨w.heap.size + 2, 0, none⟩) 1 1] 23)) (.slice (some ⟨w.heap.size + 3, 0, none⟩) 2 2) [[1], [2]] := by
  refine SlS_lit (allocs_at [.cells #[.int .i64 0, .int .i64 0, .slice none 0 0] 31, .cells #[.int .i64 1] 3, .cells #[.int .i64 2] 3, .cells #[.slice (some ⟨w.heap.size + 1, 0, none⟩) 1 1, .slice (some ⟨w.heap.size + 2, 0, none⟩) 1 1] 23] w 3 (by simp)) rfl (by omega) ?_
  intro i r hi
  have hl := (List.getElem?_eq_some_iff.1 hi).1
  simp only [List.length_cons, List.length_nil] at hl
  rcases (show i = 0 ∨ i = 1 by omega) with rfl | rfl
  · obtain rfl : [1] = r := by simpa using hi
    exact ⟨_, rfl, Sl_lit (allocs_at [.cells #[.int .i64 0, .int .i64 0, .slice none 0 0] 31, .cells #[.int .i64 1] 3, .cells #[.int .i64 2] 3, .cells #[.slice (some ⟨w.heap.size + 1, 0, none⟩) 1 1, .slice (some ⟨w.heap.size + 2, 0, none⟩) 1 1] 23] w 1 (by simp)) rfl rfl (by simp)⟩
  · obtain rfl : [2] = r := by simpa using hi
    exact ⟨_, rfl, Sl_lit (allocs_at [.cells #[.int .i64 0, .int .i64 0, .slice none 0 0] 31, .cells #[.int .i64 1] 3, .cells #[.int .i64 2] 3, .cells #[.slice (some ⟨w.heap.size + 1, 0, none⟩) 1 1, .slice (some ⟨w.heap.size + 2, 0, none⟩) 1 1] 23] w 2 (by simp)) rfl rfl (by simp)⟩

theorem rows1 (w : World) : SlS (((((w.alloc (.cells #[.int .i64 0, .int .i64 0, .slice none 0 0] 31)).alloc (.cells #[.int .i64 1] 3)).alloc (.cells #[.int .i64 2] 3)).alloc (.cells #[.int .i64 2, .int .i64 0, .int .i64 1] 3)).alloc (.cells #[.slice (some ⟨w.heap.size + 1, 0, none⟩) 1 1, .slice (some ⟨w.heap.size + 2, 0, none⟩) 1 1, .slice (some ⟨w.heap.size + 3, 0, none⟩) 3 3] 23)) (.slice (some ⟨w.heap.size + 4, 0, none⟩) 3 3) [[1], [2], [2, 0, 1]] := by
  refine SlS_lit (allocs_at [.cells #[.int .i64 0, .int .i64 0, .slice none 0 0] 31, .cells #[.int .i64 1] 3, .cells #[.int .i64 2] 3, .cells #[.int .i64 2, .int .i64 0, .int .i64 1] 3, .cells #[.slice (some ⟨w.heap.size + 1, 0, none⟩) 1 1, .slice (some ⟨w.heap.size + 2, 0, none⟩) 1 1, .slice (some ⟨w.heap.size + 3, 0, none⟩) 3 3] 23] w 4 (by simp)) rfl (by omega) ?_
  intro i r hi
  have hl := (List.getElem?_eq_some_iff.1 hi).1
  simp only [List.length_cons, List.length_nil] at hl
  rcases (show i = 0 ∨ i = 1 ∨ i = 2 by omega) with rfl | rfl | rfl
  · obtain rfl : [1] = r := by simpa using hi
    exact ⟨_, rfl, Sl_lit (allocs_at [.cells #[.int .i64 0, .int .i64 0, .slice none 0 0] 31, .cells #[.int .i64 1] 3, .cells #[.int .i64 2] 3, .cells #[.int .i64 2, .int .i64 0, .int .i64 1] 3, .cells #[.slice (some ⟨w.heap.size + 1, 0, none⟩) 1 1, .slice (some ⟨w.heap.size + 2, 0, none⟩) 1 1, .slice (some ⟨w.heap.size + 3, 0, none⟩) 3 3] 23] w 1 (by simp)) rfl rfl (by simp)⟩
  · obtain rfl : [2] = r := by simpa using hi
    exact ⟨_, rfl, Sl_lit (allocs_at [.cells #[.int .i64 0, .int .i64 0, .slice none 0 0] 31, .cells #[.int .i64 1] 3, .cells #[.int .i64 2] 3, .cells #[.int .i64 2, .int .i64 0, .int .i64 1] 3, .cells #[.slice (some ⟨w.heap.size + 1, 0, none⟩) 1 1, .slice (some ⟨w.heap.size + 2, 0, none⟩) 1 1, .slice (some ⟨w.heap.size + 3, 0, none⟩) 3 3] 23] w 2 (by simp)) rfl rfl (by simp)⟩
  · obtain rfl : [2, 0, 1] = r := by simpa using hi
    exact ⟨_, rfl, Sl_lit (allocs_at [.cells #[.int .i64 0, .int .i64 0, .slice none 0 0] 31, .cells #[.int .i64 1] 3, .cells #[.int .i64 2] 3, .cells #[.int .i64 2, .int .i64 0, .int .i64 1] 3, .cells #[.slice (some ⟨w.heap.size + 1, 0, none⟩) 1 1, .slice (some ⟨w.heap.size + 2, 0, none⟩) 1 1, .slice (some ⟨w.heap.size + 3, 0, none⟩) 3 3] 23] w 3 (by simp)) rfl rfl (by simp)⟩

theorem rows2 (w : World) : SlS (((w.alloc (.cells #[.int .i64 0, .int .i64 0, .slice none 0 0] 31)).alloc (.cells #[.int .i64 1] 3)).alloc (.cells #[.slice (some ⟨w.heap.size + 1, 0, none⟩) 1 1] 23)) (.slice (some ⟨w.heap.size + 2, 0, none⟩) 1 1) [[1]] := by
  refine SlS_lit (allocs_at [.cells #[.int .i64 0, .int .i64 0, .slice none 0 0] 31, .cells #[.int .i64 1] 3, .cells #[.slice (some ⟨w.heap.size + 1, 0, none⟩) 1 1] 23] w 2 (by simp)) rfl (by omega) ?_
  intro i r hi
  have hl := (List.getElem?_eq_some_iff.1 hi).1
  simp only [List.length_cons, List.length_nil] at hl
  rcases (show i = 0 by omega) with rfl
  · obtain rfl : [1] = r := by simpa using hi
    exact ⟨_, rfl, Sl_lit (allocs_at [.cells #[.int .i64 0, .int .i64 0, .slice none 0 0] 31, .cells #[.int .i64 1] 3, .cells #[.slice (some ⟨w.heap.size + 1, 0, none⟩) 1 1] 23] w 1 (by simp)) rfl rfl (by simp)⟩

theorem rows3 (w : World) : SlS ((((((w.alloc (.cells #[.int .i64 0, .int .i64 0, .slice none 0 0] 31)).alloc (.cells #[.int .i64 1] 3)).alloc (.cells #[.int .i64 1, .int .i64 1, .int .i64 1] 3)).alloc (.cells #[.int .i64 4, .int .i64 0, .int .i64 0, .int .i64 1] 3)).alloc (.cells #[.int .i64 2] 3)).alloc (.cells #[.slice (some ⟨w.heap.size + 1, 0, none⟩) 1 1, .slice (some ⟨w.heap.size + 2, 0, none⟩) 3 3, .slice (some ⟨w.heap.size + 3, 0, none⟩) 4 4, .slice (some ⟨w.heap.size + 4, 0, none⟩) 1 1] 23)) (.slice (some ⟨w.heap.size + 5, 0, none⟩) 4 4) [[1], [1, 1, 1], [4, 0, 0, 1], [2]] := by
  refine SlS_lit (allocs_at [.cells #[.int .i64 0, .int .i64 0, .slice none 0 0] 31, .cells #[.int .i64 1] 3, .cells #[.int .i64 1, .int .i64 1, .int .i64 1] 3, .cells #[.int .i64 4, .int .i64 0, .int .i64 0, .int .i64 1] 3, .cells #[.int .i64 2] 3, .cells #[.slice (some ⟨w.heap.size + 1, 0, none⟩) 1 1, .slice (some ⟨w.heap.size + 2, 0, none⟩) 3 3, .slice (some ⟨w.heap.size + 3, 0, none⟩) 4 4, .slice (some ⟨w.heap.size + 4, 0, none⟩) 1 1] 23] w 5 (by simp)) rfl (by omega) ?_
  intro i r hi
  have hl := (List.getElem?_eq_some_iff.1 hi).1
  simp only [List.length_cons, List.length_nil] at hl
  rcases (show i = 0 ∨ i = 1 ∨ i = 2 ∨ i = 3 by omega) with rfl | rfl | rfl | rfl
  · obtain rfl : [1] = r := by simpa using hi
    exact ⟨_, rfl, Sl_lit (allocs_at [.cells #[.int .i64 0, .int .i64 0, .slice none 0 0] 31, .cells #[.int .i64 1] 3, .cells #[.int .i64 1, .int .i64 1, .int .i64 1] 3, .cells #[.int .i64 4, .int .i64 0, .int .i64 0, .int .i64 1] 3, .cells #[.int .i64 2] 3, .cells #[.slice (some ⟨w.heap.size + 1, 0, none⟩) 1 1, .slice (some ⟨w.heap.size + 2, 0, none⟩) 3 3, .slice (some ⟨w.heap.size + 3, 0, none⟩) 4 4, .slice (some ⟨w.heap.size + 4, 0, none⟩) 1 1] 23] w 1 (by simp)) rfl rfl (by simp)⟩
  · obtain rfl : [1, 1, 1] = r := by simpa using hi
    exact ⟨_, rfl, Sl_lit (allocs_at [.cells #[.int .i64 0, .int .i64 0, .slice none 0 0] 31, .cells #[.int .i64 1] 3, .cells #[.int .i64 1, .int .i64 1, .int .i64 1] 3, .cells #[.int .i64 4, .int .i64 0, .int .i64 0, .int .i64 1] 3, .cells #[.int .i64 2] 3, .cells #[.slice (some ⟨w.heap.size + 1, 0, none⟩) 1 1, .slice (some ⟨w.heap.size + 2, 0, none⟩) 3 3, .slice (some ⟨w.heap.size + 3, 0, none⟩) 4 4, .slice (some ⟨w.heap.size + 4, 0, none⟩) 1 1] 23] w 2 (by simp)) rfl rfl (by simp)⟩
  · obtain rfl : [4, 0, 0, 1] = r := by simpa using hi
    exact ⟨_, rfl, Sl_lit (allocs_at [.cells #[.int .i64 0, .int .i64 0, .slice none 0 0] 31, .cells #[.int .i64 1] 3, .cells #[.int .i64 1, .int .i64 1, .int .i64 1] 3, .cells #[.int .i64 4, .int .i64 0, .int .i64 0, .int .i64 1] 3, .cells #[.int .i64 2] 3, .cells #[.slice (some ⟨w.heap.size + 1, 0, none⟩) 1 1, .slice (some ⟨w.heap.size + 2, 0, none⟩) 3 3, .slice (some ⟨w.heap.size + 3, 0, none⟩) 4 4, .slice (some ⟨w.heap.size + 4, 0, none⟩) 1 1] 23] w 3 (by simp)) rfl rfl (by simp)⟩
  · obtain rfl : [2] = r := by simpa using hi
    exact ⟨_, rfl, Sl_lit (allocs_at [.cells #[.int .i64 0, .int .i64 0, .slice none 0 0] 31, .cells #[.int .i64 1] 3, .cells #[.int .i64 1, .int .i64 1, .int .i64 1] 3, .cells #[.int .i64 4, .int .i64 0, .int .i64 0, .int .i64 1] 3, .cells #[.int .i64 2] 3, .cells #[.slice (some ⟨w.heap.size + 1, 0, none⟩) 1 1, .slice (some ⟨w.heap.size + 2, 0, none⟩) 3 3, .slice (some ⟨w.heap.size + 3, 0, none⟩) 4 4, .slice (some ⟨w.heap.size + 4, 0, none⟩) 1 1] 23] w 4 (by simp)) rfl rfl (by simp)⟩

theorem rows4 (w : World) : SlS ((((((w.alloc (.cells #[.int .i64 0, .int .i64 0, .slice none 0 0] 31)).alloc (.cells #[.int .i64 1] 3)).alloc (.cells #[.int .i64 2] 3)).alloc (.cells #[.int .i64 1, .int .i64 0, .int .i64 1] 3)).alloc (.cells #[.int .i64 2] 3)).alloc (.cells #[.slice (some ⟨w.heap.size + 1, 0, none⟩) 1 1, .slice (some ⟨w.heap.size + 2, 0, none⟩) 1 1, .slice (some ⟨w.heap.size + 3, 0, none⟩) 3 3, .slice (some ⟨w.heap.size + 4, 0, none⟩) 1 1] 23)) (.slice (some ⟨w.heap.size + 5, 0, none⟩) 4 4) [[1], [2], [1, 0, 1], [2]] := by
  refine SlS_lit (allocs_at [.cells #[.int .i64 0, .int .i64 0, .slice none 0 0] 31, .cells #[.int .i64 1] 3, .cells #[.int .i64 2] 3, .cells #[.int .i64 1, .int .i64 0, .int .i64 1] 3, .cells #[.int .i64 2] 3, .cells #[.slice (some ⟨w.heap.size + 1, 0, none⟩) 1 1, .slice (some ⟨w.heap.size + 2, 0, none⟩) 1 1, .slice (some ⟨w.heap.size + 3, 0, none⟩) 3 3, .slice (some ⟨w.heap.size + 4, 0, none⟩) 1 1] 23] w 5 (by simp)) rfl (by omega) ?_
  intro i r hi
  have hl := (List.getElem?_eq_some_iff.1 hi).1
  simp only [List.length_cons, List.length_nil] at hl
  rcases (show i = 0 ∨ i = 1 ∨ i = 2 ∨ i = 3 by omega) with rfl | rfl | rfl | rfl
  · obtain rfl : [1] = r := by simpa using hi
    exact ⟨_, rfl, Sl_lit (allocs_at [.cells #[.int .i64 0, .int .i64 0, .slice none 0 0] 31, .cells #[.int .i64 1] 3, .cells #[.int .i64 2] 3, .cells #[.int .i64 1, .int .i64 0, .int .i64 1] 3, .cells #[.int .i64 2] 3, .cells #[.slice (some ⟨w.heap.size + 1, 0, none⟩) 1 1, .slice (some ⟨w.heap.size + 2, 0, none⟩) 1 1, .slice (some ⟨w.heap.size + 3, 0, none⟩) 3 3, .slice (some ⟨w.heap.size + 4, 0, none⟩) 1 1] 23] w 1 (by simp)) rfl rfl (by simp)⟩
  · obtain rfl : [2] = r := by simpa using hi
    exact ⟨_, rfl, Sl_lit (allocs_at [.cells #[.int .i64 0, .int .i64 0, .slice none 0 0] 31, .cells #[.int .i64 1] 3, .cells #[.int .i64 2] 3, .cells #[.int .i64 1, .int .i64 0, .int .i64 1] 3, .cells #[.int .i64 2] 3, .cells #[.slice (some ⟨w.heap.size + 1, 0, none⟩) 1 1, .slice (some ⟨w.heap.size + 2, 0, none⟩) 1 1, .slice (some ⟨w.heap.size + 3, 0, none⟩) 3 3, .slice (some ⟨w.heap.size + 4, 0, none⟩) 1 1] 23] w 2 (by simp)) rfl rfl (by simp)⟩
  · obtain rfl : [1, 0, 1] = r := by simpa using hi
    exact ⟨_, rfl, Sl_lit (allocs_at [.cells #[.int .i64 0, .int .i64 0, .slice none 0 0] 31, .cells #[.int .i64 1] 3, .cells #[.int .i64 2] 3, .cells #[.int .i64 1, .int .i64 0, .int .i64 1] 3, .cells #[.int .i64 2] 3, .cells #[.slice (some ⟨w.heap.size + 1, 0, none⟩) 1 1, .slice (some ⟨w.heap.size + 2, 0, none⟩) 1 1, .slice (some ⟨w.heap.size + 3, 0, none⟩) 3 3, .slice (some ⟨w.heap.size + 4, 0, none⟩) 1 1] 23] w 3 (by simp)) rfl rfl (by simp)⟩
  · obtain rfl : [2] = r := by simpa using hi
    exact ⟨_, rfl, Sl_lit (allocs_at [.cells #[.int .i64 0, .int .i64 0, .slice none 0 0] 31, .cells #[.int .i64 1] 3, .cells #[.int .i64 2] 3, .cells #[.int .i64 1, .int .i64 0, .int .i64 1] 3, .cells #[.int .i64 2] 3, .cells #[.slice (some ⟨w.heap.size + 1, 0, none⟩) 1 1, .slice (some ⟨w.heap.size + 2, 0, none⟩) 1 1, .slice (some ⟨w.heap.size + 3, 0, none⟩) 3 3, .slice (some ⟨w.heap.size + 4, 0, none⟩) 1 1] 23] w 4 (by simp)) rfl rfl (by simp)⟩

theorem rows5 (w : World) : SlS ((((((w.alloc (.cells #[.int .i64 0, .int .i64 0, .slice none 0 0] 31)).alloc (.cells #[.int .i64 1] 3)).alloc (.cells #[.int .i64 2] 3)).alloc (.cells #[.int .i64 1] 3)).alloc (.cells #[.int .i64 2, .int .i64 0, .int .i64 1] 3)).alloc (.cells #[.slice (some ⟨w.heap.size + 1, 0, none⟩) 1 1, .slice (some ⟨w.heap.size + 2, 0, none⟩) 1 1, .slice (some ⟨w.heap.size + 3, 0, none⟩) 1 1, .slice (some ⟨w.heap.size + 4, 0, none⟩) 3 3] 23)) (.slice (some ⟨w.heap.size + 5, 0, none⟩) 4 4) [[1], [2], [1], [2, 0, 1]] := by
  refine SlS_lit (allocs_at [.cells #[.int .i64 0, .int .i64 0, .slice none 0 0] 31, .cells #[.int .i64 1] 3, .cells #[.int .i64 2] 3, .cells #[.int .i64 1] 3, .cells #[.int .i64 2, .int .i64 0, .int .i64 1] 3, .cells #[.slice (some ⟨w.heap.size + 1, 0, none⟩) 1 1, .slice (some ⟨w.heap.size + 2, 0, none⟩) 1 1, .slice (some ⟨w.heap.size + 3, 0, none⟩) 1 1, .slice (some ⟨w.heap.size + 4, 0, none⟩) 3 3] 23] w 5 (by simp)) rfl (by omega) ?_
  intro i r hi
  have hl := (List.getElem?_eq_some_iff.1 hi).1
  simp only [List.length_cons, List.length_nil] at hl
  rcases (show i = 0 ∨ i = 1 ∨ i = 2 ∨ i = 3 by omega) with rfl | rfl | rfl | rfl
  · obtain rfl : [1] = r := by simpa using hi
    exact ⟨_, rfl, Sl_lit (allocs_at [.cells #[.int .i64 0, .int .i64 0, .slice none 0 0] 31, .cells #[.int .i64 1] 3, .cells #[.int .i64 2] 3, .cells #[.int .i64 1] 3, .cells #[.int .i64 2, .int .i64 0, .int .i64 1] 3, .cells #[.slice (some ⟨w.heap.size + 1, 0, none⟩) 1 1, .slice (some ⟨w.heap.size + 2, 0, none⟩) 1 1, .slice (some ⟨w.heap.size + 3, 0, none⟩) 1 1, .slice (some ⟨w.heap.size + 4, 0, none⟩) 3 3] 23] w 1 (by simp)) rfl rfl (by simp)⟩
  · obtain rfl : [2] = r := by simpa using hi
    exact ⟨_, rfl, Sl_lit (allocs_at [.cells #[.int .i64 0, .int .i64 0, .slice none 0 0] 31, .cells #[.int .i64 1] 3, .cells #[.int .i64 2] 3, .cells #[.int .i64 1] 3, .cells #[.int .i64 2, .int .i64 0, .int .i64 1] 3, .cells #[.slice (some ⟨w.heap.size + 1, 0, none⟩) 1 1, .slice (some ⟨w.heap.size + 2, 0, none⟩) 1 1, .slice (some ⟨w.heap.size + 3, 0, none⟩) 1 1, .slice (some ⟨w.heap.size + 4, 0, none⟩) 3 3] 23] w 2 (by simp)) rfl rfl (by simp)⟩
  · obtain rfl : [1] = r := by simpa using hi
    exact ⟨_, rfl, Sl_lit (allocs_at [.cells #[.int .i64 0, .int .i64 0, .slice none 0 0] 31, .cells #[.int .i64 1] 3, .cells #[.int .i64 2] 3, .cells #[.int .i64 1] 3, .cells #[.int .i64 2, .int .i64 0, .int .i64 1] 3, .cells #[.slice (some ⟨w.heap.size + 1, 0, none⟩) 1 1, .slice (some ⟨w.heap.size + 2, 0, none⟩) 1 1, .slice (some ⟨w.heap.size + 3, 0, none⟩) 1 1, .slice (some ⟨w.heap.size + 4, 0, none⟩) 3 3] 23] w 3 (by simp)) rfl rfl (by simp)⟩
  · obtain rfl : [2, 0, 1] = r := by simpa using hi
    exact ⟨_, rfl, Sl_lit (allocs_at [.cells #[.int .i64 0, .int .i64 0, .slice none 0 0] 31, .cells #[.int .i64 1] 3, .cells #[.int .i64 2] 3, .cells #[.int .i64 1] 3, .cells #[.int .i64 2, .int .i64 0, .int .i64 1] 3, .cells #[.slice (some ⟨w.heap.size + 1, 0, none⟩) 1 1, .slice (some ⟨w.heap.size + 2, 0, none⟩) 1 1, .slice (some ⟨w.heap.size + 3, 0, none⟩) 1 1, .slice (some ⟨w.heap.size + 4, 0, none⟩) 3 3] 23] w 4 (by simp)) rfl rfl (by simp)⟩

theorem rows6 (w : World) : SlS (((((w.alloc (.cells #[.int .i64 0, .int .i64 0, .slice none 0 0] 31)).alloc (.cells #[.int .i64 1, .int .i64 1] 3)).alloc (.cells #[.int .i64 4, .int .i64 0, .int .i64 0, .int .i64 1] 3)).alloc (.cells #[.int .i64 2] 3)).alloc (.cells #[.slice (some ⟨w.heap.size + 1, 0, none⟩) 2 2, .slice (some ⟨w.heap.size + 2, 0, none⟩) 4 4, .slice (some ⟨w.heap.size + 3, 0, none⟩) 1 1] 23)) (.slice (some ⟨w.heap.size + 4, 0, none⟩) 3 3) [[1, 1], [4, 0, 0, 1], [2]] := by
  refine SlS_lit (allocs_at [.cells #[.int .i64 0, .int .i64 0, .slice none 0 0] 31, .cells #[.int .i64 1, .int .i64 1] 3, .cells #[.int .i64 4, .int .i64 0, .int .i64 0, .int .i64 1] 3, .cells #[.int .i64 2] 3, .cells #[.slice (some ⟨w.heap.size + 1, 0, none⟩) 2 2, .slice (some ⟨w.heap.size + 2, 0, none⟩) 4 4, .slice (some ⟨w.heap.size + 3, 0, none⟩) 1 1] 23] w 4 (by simp)) rfl (by omega) ?_
  intro i r hi
  have hl := (List.getElem?_eq_some_iff.1 hi).1
  simp only [List.length_cons, List.length_nil] at hl
  rcases (show i = 0 ∨ i = 1 ∨ i = 2 by omega) with rfl | rfl | rfl
  · obtain rfl : [1, 1] = r := by simpa using hi
    exact ⟨_, rfl, Sl_lit (allocs_at [.cells #[.int .i64 0, .int .i64 0, .slice none 0 0] 31, .cells #[.int .i64 1, .int .i64 1] 3, .cells #[.int .i64 4, .int .i64 0, .int .i64 0, .int .i64 1] 3, .cells #[.int .i64 2] 3, .cells #[.slice (some ⟨w.heap.size + 1, 0, none⟩) 2 2, .slice (some ⟨w.heap.size + 2, 0, none⟩) 4 4, .slice (some ⟨w.heap.size + 3, 0, none⟩) 1 1] 23] w 1 (by simp)) rfl rfl (by simp)⟩
  · obtain rfl : [4, 0, 0, 1] = r := by simpa using hi
    exact ⟨_, rfl, Sl_lit (allocs_at [.cells #[.int .i64 0, .int .i64 0, .slice none 0 0] 31, .cells #[.int .i64 1, .int .i64 1] 3, .cells #[.int .i64 4, .int .i64 0, .int .i64 0, .int .i64 1] 3, .cells #[.int .i64 2] 3, .cells #[.slice (some ⟨w.heap.size + 1, 0, none⟩) 2 2, .slice (some ⟨w.heap.size + 2, 0, none⟩) 4 4, .slice (some ⟨w.heap.size + 3, 0, none⟩) 1 1] 23] w 2 (by simp)) rfl rfl (by simp)⟩
  · obtain rfl : [2] = r := by simpa using hi
    exact ⟨_, rfl, Sl_lit (allocs_at [.cells #[.int .i64 0, .int .i64 0, .slice none 0 0] 31, .cells #[.int .i64 1, .int .i64 1] 3, .cells #[.int .i64 4, .int .i64 0, .int .i64 0, .int .i64 1] 3, .cells #[.int .i64 2] 3, .cells #[.slice (some ⟨w.heap.size + 1, 0, none⟩) 2 2, .slice (some ⟨w.heap.size + 2, 0, none⟩) 4 4, .slice (some ⟨w.heap.size + 3, 0, none⟩) 1 1] 23] w 3 (by simp)) rfl rfl (by simp)⟩

theorem rows7 (w : World) : SlS (((((((w.alloc (.cells #[.int .i64 0, .int .i64 0, .slice none 0 0] 31)).alloc (.cells #[.int .i64 1, .int .i64 1] 3)).alloc (.cells #[.int .i64 5, .int .i64 2, .int .i64 1, .int .i64 0] 3)).alloc (.cells #[.int .i64 2, .int .i64 2] 3)).alloc (.cells #[.int .i64 3, .int .i64 3] 3)).alloc (.cells #[.int .i64 4, .int .i64 0, .int .i64 1, .int .i64 3] 3)).alloc (.cells #[.slice (some ⟨w.heap.size + 1, 0, none⟩) 2 2, .slice (some ⟨w.heap.size + 2, 0, none⟩) 4 4, .slice (some ⟨w.heap.size + 3, 0, none⟩) 2 2, .slice (some ⟨w.heap.size + 4, 0, none⟩) 2 2, .slice (some ⟨w.heap.size + 5, 0, none⟩) 4 4] 23)) (.slice (some ⟨w.heap.size + 6, 0, none⟩) 5 5) [[1, 1], [5, 2, 1, 0], [2, 2], [3, 3], [4, 0, 1, 3]] := by
  refine SlS_lit (allocs_at [.cells #[.int .i64 0, .int .i64 0, .slice none 0 0] 31, .cells #[.int .i64 1, .int .i64 1] 3, .cells #[.int .i64 5, .int .i64 2, .int .i64 1, .int .i64 0] 3, .cells #[.int .i64 2, .int .i64 2] 3, .cells #[.int .i64 3, .int .i64 3] 3, .cells #[.int .i64 4, .int .i64 0, .int .i64 1, .int .i64 3] 3, .cells #[.slice (some ⟨w.heap.size + 1, 0, none⟩) 2 2, .slice (some ⟨w.heap.size + 2, 0, none⟩) 4 4, .slice (some ⟨w.heap.size + 3, 0, none⟩) 2 2, .slice (some ⟨w.heap.size + 4, 0, none⟩) 2 2, .slice (some ⟨w.heap.size + 5, 0, none⟩) 4 4] 23] w 6 (by simp)) rfl (by omega) ?_
  intro i r hi
  have hl := (List.getElem?_eq_some_iff.1 hi).1
  simp only [List.length_cons, List.length_nil] at hl
  rcases (show i = 0 ∨ i = 1 ∨ i = 2 ∨ i = 3 ∨ i = 4 by omega) with rfl | rfl | rfl | rfl | rfl
  · obtain rfl : [1, 1] = r := by simpa using hi
    exact ⟨_, rfl, Sl_lit (allocs_at [.cells #[.int .i64 0, .int .i64 0, .slice none 0 0] 31, .cells #[.int .i64 1, .int .i64 1] 3, .cells #[.int .i64 5, .int .i64 2, .int .i64 1, .int .i64 0] 3, .cells #[.int .i64 2, .int .i64 2] 3, .cells #[.int .i64 3, .int .i64 3] 3, .cells #[.int .i64 4, .int .i64 0, .int .i64 1, .int .i64 3] 3, .cells #[.slice (some ⟨w.heap.size + 1, 0, none⟩) 2 2, .slice (some ⟨w.heap.size + 2, 0, none⟩) 4 4, .slice (some ⟨w.heap.size + 3, 0, none⟩) 2 2, .slice (some ⟨w.heap.size + 4, 0, none⟩) 2 2, .slice (some ⟨w.heap.size + 5, 0, none⟩) 4 4] 23] w 1 (by simp)) rfl rfl (by simp)⟩
  · obtain rfl : [5, 2, 1, 0] = r := by simpa using hi
    exact ⟨_, rfl, Sl_lit (allocs_at [.cells #[.int .i64 0, .int .i64 0, .slice none 0 0] 31, .cells #[.int .i64 1, .int .i64 1] 3, .cells #[.int .i64 5, .int .i64 2, .int .i64 1, .int .i64 0] 3, .cells #[.int .i64 2, .int .i64 2] 3, .cells #[.int .i64 3, .int .i64 3] 3, .cells #[.int .i64 4, .int .i64 0, .int .i64 1, .int .i64 3] 3, .cells #[.slice (some ⟨w.heap.size + 1, 0, none⟩) 2 2, .slice (some ⟨w.heap.size + 2, 0, none⟩) 4 4, .slice (some ⟨w.heap.size + 3, 0, none⟩) 2 2, .slice (some ⟨w.heap.size + 4, 0, none⟩) 2 2, .slice (some ⟨w.heap.size + 5, 0, none⟩) 4 4] 23] w 2 (by simp)) rfl rfl (by simp)⟩
  · obtain rfl : [2, 2] = r := by simpa using hi
    exact ⟨_, rfl, Sl_lit (allocs_at [.cells #[.int .i64 0, .int .i64 0, .slice none 0 0] 31, .cells #[.int .i64 1, .int .i64 1] 3, .cells #[.int .i64 5, .int .i64 2, .int .i64 1, .int .i64 0] 3, .cells #[.int .i64 2, .int .i64 2] 3, .cells #[.int .i64 3, .int .i64 3] 3, .cells #[.int .i64 4, .int .i64 0, .int .i64 1, .int .i64 3] 3, .cells #[.slice (some ⟨w.heap.size + 1, 0, none⟩) 2 2, .slice (some ⟨w.heap.size + 2, 0, none⟩) 4 4, .slice (some ⟨w.heap.size + 3, 0, none⟩) 2 2, .slice (some ⟨w.heap.size + 4, 0, none⟩) 2 2, .slice (some ⟨w.heap.size + 5, 0, none⟩) 4 4] 23] w 3 (by simp)) rfl rfl (by simp)⟩
  · obtain rfl : [3, 3] = r := by simpa using hi
    exact ⟨_, rfl, Sl_lit (allocs_at [.cells #[.int .i64 0, .int .i64 0, .slice none 0 0] 31, .cells #[.int .i64 1, .int .i64 1] 3, .cells #[.int .i64 5, .int .i64 2, .int .i64 1, .int .i64 0] 3, .cells #[.int .i64 2, .int .i64 2] 3, .cells #[.int .i64 3, .int .i64 3] 3, .cells #[.int .i64 4, .int .i64 0, .int .i64 1, .int .i64 3] 3, .cells #[.slice (some ⟨w.heap.size + 1, 0, none⟩) 2 2, .slice (some ⟨w.heap.size + 2, 0, none⟩) 4 4, .slice (some ⟨w.heap.size + 3, 0, none⟩) 2 2, .slice (some ⟨w.heap.size + 4, 0, none⟩) 2 2, .slice (some ⟨w.heap.size + 5, 0, none⟩) 4 4] 23] w 4 (by simp)) rfl rfl (by simp)⟩
  · obtain rfl : [4, 0, 1, 3] = r := by simpa using hi
    exact ⟨_, rfl, Sl_lit (allocs_at [.cells #[.int .i64 0, .int .i64 0, .slice none 0 0] 31, .cells #[.int .i64 1, .int .i64 1] 3, .cells #[.int .i64 5, .int .i64 2, .int .i64 1, .int .i64 0] 3, .cells #[.int .i64 2, .int .i64 2] 3, .cells #[.int .i64 3, .int .i64 3] 3, .cells #[.int .i64 4, .int .i64 0, .int .i64 1, .int .i64 3] 3, .cells #[.slice (some ⟨w.heap.size + 1, 0, none⟩) 2 2, .slice (some ⟨w.heap.size + 2, 0, none⟩) 4 4, .slice (some ⟨w.heap.size + 3, 0, none⟩) 2 2, .slice (some ⟨w.heap.size + 4, 0, none⟩) 2 2, .slice (some ⟨w.heap.size + 5, 0, none⟩) 4 4] 23] w 5 (by simp)) rfl rfl (by simp)⟩

theorem rows8 (w : World) : SlS (((((w.alloc (.cells #[.int .i64 0, .int .i64 0, .slice none 0 0] 31)).alloc (.cells #[.int .i64 1] 3)).alloc (.cells #[.int .i64 2] 3)).alloc (.cells #[.int .i64 2] 3)).alloc (.cells #[.slice (some ⟨w.heap.size + 1, 0, none⟩) 1 1, .slice (some ⟨w.heap.size + 2, 0, none⟩) 1 1, .slice (some ⟨w.heap.size + 3, 0, none⟩) 1 1] 23)) (.slice (some ⟨w.heap.size + 4, 0, none⟩) 3 3) [[1], [2], [2]] := by
  refine SlS_lit (allocs_at [.cells #[.int .i64 0, .int .i64 0, .slice none 0 0] 31, .cells #[.int .i64 1] 3, .cells #[.int .i64 2] 3, .cells #[.int .i64 2] 3, .cells #[.slice (some ⟨w.heap.size + 1, 0, none⟩) 1 1, .slice (some ⟨w.heap.size + 2, 0, none⟩) 1 1, .slice (some ⟨w.heap.size + 3, 0, none⟩) 1 1] 23] w 4 (by simp)) rfl (by omega) ?_
  intro i r hi
  have hl := (List.getElem?_eq_some_iff.1 hi).1
  simp only [List.length_cons, List.length_nil] at hl
  rcases (show i = 0 ∨ i = 1 ∨ i = 2 by omega) with rfl | rfl | rfl
  · obtain rfl : [1] = r := by simpa using hi
    exact ⟨_, rfl, Sl_lit (allocs_at [.cells #[.int .i64 0, .int .i64 0, .slice none 0 0] 31, .cells #[.int .i64 1] 3, .cells #[.int .i64 2] 3, .cells #[.int .i64 2] 3, .cells #[.slice (some ⟨w.heap.size + 1, 0, none⟩) 1 1, .slice (some ⟨w.heap.size + 2, 0, none⟩) 1 1, .slice (some ⟨w.heap.size + 3, 0, none⟩) 1 1] 23] w 1 (by simp)) rfl rfl (by simp)⟩
  · obtain rfl : [2] = r := by simpa using hi
    exact ⟨_, rfl, Sl_lit (allocs_at [.cells #[.int .i64 0, .int .i64 0, .slice none 0 0] 31, .cells #[.int .i64 1] 3, .cells #[.int .i64 2] 3, .cells #[.int .i64 2] 3, .cells #[.slice (some ⟨w.heap.size + 1, 0, none⟩) 1 1, .slice (some ⟨w.heap.size + 2, 0, none⟩) 1 1, .slice (some ⟨w.heap.size + 3, 0, none⟩) 1 1] 23] w 2 (by simp)) rfl rfl (by simp)⟩
  · obtain rfl : [2] = r := by simpa using hi
    exact ⟨_, rfl, Sl_lit (allocs_at [.cells #[.int .i64 0, .int .i64 0, .slice none 0 0] 31, .cells #[.int .i64 1] 3, .cells #[.int .i64 2] 3, .cells #[.int .i64 2] 3, .cells #[.slice (some ⟨w.heap.size + 1, 0, none⟩) 1 1, .slice (some ⟨w.heap.size + 2, 0, none⟩) 1 1, .slice (some ⟨w.heap.size + 3, 0, none⟩) 1 1] 23] w 3 (by simp)) rfl rfl (by simp)⟩

theorem rows9 (w : World) : SlS (((((w.alloc (.cells #[.int .i64 0, .int .i64 0, .slice none 0 0] 31)).alloc (.cells #[.int .i64 2] 3)).alloc (.cells #[.int .i64 3, .int .i64 1, .int .i64 1] 3)).alloc (.cells #[.int .i64 4, .int .i64 0, .int .i64 0, .int .i64 1] 3)).alloc (.cells #[.slice (some ⟨w.heap.size + 1, 0, none⟩) 1 1, .slice (some ⟨w.heap.size + 2, 0, none⟩) 3 3, .slice (some ⟨w.heap.size + 3, 0, none⟩) 4 4] 23)) (.slice (some ⟨w.heap.size + 4, 0, none⟩) 3 3) [[2], [3, 1, 1], [4, 0, 0, 1]] := by
  refine SlS_lit (allocs_at [.cells #[.int .i64 0, .int .i64 0, .slice none 0 0] 31, .cells #[.int .i64 2] 3, .cells #[.int .i64 3, .int .i64 1, .int .i64 1] 3, .cells #[.int .i64 4, .int .i64 0, .int .i64 0, .int .i64 1] 3, .cells #[.slice (some ⟨w.heap.size + 1, 0, none⟩) 1 1, .slice (some ⟨w.heap.size + 2, 0, none⟩) 3 3, .slice (some ⟨w.heap.size + 3, 0, none⟩) 4 4] 23] w 4 (by simp)) rfl (by omega) ?_
  intro i r hi
  have hl := (List.getElem?_eq_some_iff.1 hi).1
  simp only [List.length_cons, List.length_nil] at hl
  rcases (show i = 0 ∨ i = 1 ∨ i = 2 by omega) with rfl | rfl | rfl
  · obtain rfl : [2] = r := by simpa using hi
    exact ⟨_, rfl, Sl_lit (allocs_at [.cells #[.int .i64 0, .int .i64 0, .slice none 0 0] 31, .cells #[.int .i64 2] 3, .cells #[.int .i64 3, .int .i64 1, .int .i64 1] 3, .cells #[.int .i64 4, .int .i64 0, .int .i64 0, .int .i64 1] 3, .cells #[.slice (some ⟨w.heap.size + 1, 0, none⟩) 1 1, .slice (some ⟨w.heap.size + 2, 0, none⟩) 3 3, .slice (some ⟨w.heap.size + 3, 0, none⟩) 4 4] 23] w 1 (by simp)) rfl rfl (by simp)⟩
  · obtain rfl : [3, 1, 1] = r := by simpa using hi
    exact ⟨_, rfl, Sl_lit (allocs_at [.cells #[.int .i64 0, .int .i64 0, .slice none 0 0] 31, .cells #[.int .i64 2] 3, .cells #[.int .i64 3, .int .i64 1, .int .i64 1] 3, .cells #[.int .i64 4, .int .i64 0, .int .i64 0, .int .i64 1] 3, .cells #[.slice (some ⟨w.heap.size + 1, 0, none⟩) 1 1, .slice (some ⟨w.heap.size + 2, 0, none⟩) 3 3, .slice (some ⟨w.heap.size + 3, 0, none⟩) 4 4] 23] w 2 (by simp)) rfl rfl (by simp)⟩
  · obtain rfl : [4, 0, 0, 1] = r := by simpa using hi
    exact ⟨_, rfl, Sl_lit (allocs_at [.cells #[.int .i64 0, .int .i64 0, .slice none 0 0] 31, .cells #[.int .i64 2] 3, .cells #[.int .i64 3, .int .i64 1, .int .i64 1] 3, .cells #[.int .i64 4, .int .i64 0, .int .i64 0, .int .i64 1] 3, .cells #[.slice (some ⟨w.heap.size + 1, 0, none⟩) 1 1, .slice (some ⟨w.heap.size + 2, 0, none⟩) 3 3, .slice (some ⟨w.heap.size + 3, 0, none⟩) 4 4] 23] w 3 (by simp)) rfl rfl (by simp)⟩

theorem rows10 (w : World) : SlS ((((((((w.alloc (.cells #[.int .i64 0, .int .i64 0, .slice none 0 0] 31)).alloc (.cells #[.int .i64 1] 3)).alloc (.cells #[.int .i64 9, .int .i64 0, .int .i64 4] 3)).alloc (.cells #[.int .i64 1, .int .i64 1, .int .i64 2] 3)).alloc (.cells #[.int .i64 8, .int .i64 0, .int .i64 5] 3)).alloc (.cells #[.int .i64 1, .int .i64 1, .int .i64 1] 3)).alloc (.cells #[.int .i64 2, .int .i64 1] 3)).alloc (.cells #[.slice (some ⟨w.heap.size + 1, 0, none⟩) 1 1, .slice (some ⟨w.heap.size + 2, 0, none⟩) 3 3, .slice (some ⟨w.heap.size + 3, 0, none⟩) 3 3, .slice (some ⟨w.heap.size + 4, 0, none⟩) 3 3, .slice (some ⟨w.heap.size + 5, 0, none⟩) 3 3, .slice (some ⟨w.heap.size + 6, 0, none⟩) 2 2] 23)) (.slice (some ⟨w.heap.size + 7, 0, none⟩) 6 6) [[1], [9, 0, 4], [1, 1, 2], [8, 0, 5], [1, 1, 1], [2, 1]] := by
  refine SlS_lit (allocs_at [.cells #[.int .i64 0, .int .i64 0, .slice none 0 0] 31, .cells #[.int .i64 1] 3, .cells #[.int .i64 9, .int .i64 0, .int .i64 4] 3, .cells #[.int .i64 1, .int .i64 1, .int .i64 2] 3, .cells #[.int .i64 8, .int .i64 0, .int .i64 5] 3, .cells #[.int .i64 1, .int .i64 1, .int .i64 1] 3, .cells #[.int .i64 2, .int .i64 1] 3, .cells #[.slice (some ⟨w.heap.size + 1, 0, none⟩) 1 1, .slice (some ⟨w.heap.size + 2, 0, none⟩) 3 3, .slice (some ⟨w.heap.size + 3, 0, none⟩) 3 3, .slice (some ⟨w.heap.size + 4, 0, none⟩) 3 3, .slice (some ⟨w.heap.size + 5, 0, none⟩) 3 3, .slice (some ⟨w.heap.size + 6, 0, none⟩) 2 2] 23] w 7 (by simp)) rfl (by omega) ?_
  intro i r hi
  have hl := (List.getElem?_eq_some_iff.1 hi).1
  simp only [List.length_cons, List.length_nil] at hl
  rcases (show i = 0 ∨ i = 1 ∨ i = 2 ∨ i = 3 ∨ i = 4 ∨ i = 5 by omega) with rfl | rfl | rfl | rfl | rfl | rfl
  · obtain rfl : [1] = r := by simpa using hi
    exact ⟨_, rfl, Sl_lit (allocs_at [.cells #[.int .i64 0, .int .i64 0, .slice none 0 0] 31, .cells #[.int .i64 1] 3, .cells #[.int .i64 9, .int .i64 0, .int .i64 4] 3, .cells #[.int .i64 1, .int .i64 1, .int .i64 2] 3, .cells #[.int .i64 8, .int .i64 0, .int .i64 5] 3, .cells #[.int .i64 1, .int .i64 1, .int .i64 1] 3, .cells #[.int .i64 2, .int .i64 1] 3, .cells #[.slice (some ⟨w.heap.size + 1, 0, none⟩) 1 1, .slice (some ⟨w.heap.size + 2, 0, none⟩) 3 3, .slice (some ⟨w.heap.size + 3, 0, none⟩) 3 3, .slice (some ⟨w.heap.size + 4, 0, none⟩) 3 3, .slice (some ⟨w.heap.size + 5, 0, none⟩) 3 3, .slice (some ⟨w.heap.size + 6, 0, none⟩) 2 2] 23] w 1 (by simp)) rfl rfl (by simp)⟩
  · obtain rfl : [9, 0, 4] = r := by simpa using hi
    exact ⟨_, rfl, Sl_lit (allocs_at [.cells #[.int .i64 0, .int .i64 0, .slice none 0 0] 31, .cells #[.int .i64 1] 3, .cells #[.int .i64 9, .int .i64 0, .int .i64 4] 3, .cells #[.int .i64 1, .int .i64 1, .int .i64 2] 3, .cells #[.int .i64 8, .int .i64 0, .int .i64 5] 3, .cells #[.int .i64 1, .int .i64 1, .int .i64 1] 3, .cells #[.int .i64 2, .int .i64 1] 3, .cells #[.slice (some ⟨w.heap.size + 1, 0, none⟩) 1 1, .slice (some ⟨w.heap.size + 2, 0, none⟩) 3 3, .slice (some ⟨w.heap.size + 3, 0, none⟩) 3 3, .slice (some ⟨w.heap.size + 4, 0, none⟩) 3 3, .slice (some ⟨w.heap.size + 5, 0, none⟩) 3 3, .slice (some ⟨w.heap.size + 6, 0, none⟩) 2 2] 23] w 2 (by simp)) rfl rfl (by simp)⟩
  · obtain rfl : [1, 1, 2] = r := by simpa using hi
    exact ⟨_, rfl, Sl_lit (allocs_at [.cells #[.int .i64 0, .int .i64 0, .slice none 0 0] 31, .cells #[.int .i64 1] 3, .cells #[.int .i64 9, .int .i64 0, .int .i64 4] 3, .cells #[.int .i64 1, .int .i64 1, .int .i64 2] 3, .cells #[.int .i64 8, .int .i64 0, .int .i64 5] 3, .cells #[.int .i64 1, .int .i64 1, .int .i64 1] 3, .cells #[.int .i64 2, .int .i64 1] 3, .cells #[.slice (some ⟨w.heap.size + 1, 0, none⟩) 1 1, .slice (some ⟨w.heap.size + 2, 0, none⟩) 3 3, .slice (some ⟨w.heap.size + 3, 0, none⟩) 3 3, .slice (some ⟨w.heap.size + 4, 0, none⟩) 3 3, .slice (some ⟨w.heap.size + 5, 0, none⟩) 3 3, .slice (some ⟨w.heap.size + 6, 0, none⟩) 2 2] 23] w 3 (by simp)) rfl rfl (by simp)⟩
  · obtain rfl : [8, 0, 5] = r := by simpa using hi
    exact ⟨_, rfl, Sl_lit (allocs_at [.cells #[.int .i64 0, .int .i64 0, .slice none 0 0] 31, .cells #[.int .i64 1] 3, .cells #[.int .i64 9, .int .i64 0, .int .i64 4] 3, .cells #[.int .i64 1, .int .i64 1, .int .i64 2] 3, .cells #[.int .i64 8, .int .i64 0, .int .i64 5] 3, .cells #[.int .i64 1, .int .i64 1, .int .i64 1] 3, .cells #[.int .i64 2, .int .i64 1] 3, .cells #[.slice (some ⟨w.heap.size + 1, 0, none⟩) 1 1, .slice (some ⟨w.heap.size + 2, 0, none⟩) 3 3, .slice (some ⟨w.heap.size + 3, 0, none⟩) 3 3, .slice (some ⟨w.heap.size + 4, 0, none⟩) 3 3, .slice (some ⟨w.heap.size + 5, 0, none⟩) 3 3, .slice (some ⟨w.heap.size + 6, 0, none⟩) 2 2] 23] w 4 (by simp)) rfl rfl (by simp)⟩
  · obtain rfl : [1, 1, 1] = r := by simpa using hi
    exact ⟨_, rfl, Sl_lit (allocs_at [.cells #[.int .i64 0, .int .i64 0, .slice none 0 0] 31, .cells #[.int .i64 1] 3, .cells #[.int .i64 9, .int .i64 0, .int .i64 4] 3, .cells #[.int .i64 1, .int .i64 1, .int .i64 2] 3, .cells #[.int .i64 8, .int .i64 0, .int .i64 5] 3, .cells #[.int .i64 1, .int .i64 1, .int .i64 1] 3, .cells #[.int .i64 2, .int .i64 1] 3, .cells #[.slice (some ⟨w.heap.size + 1, 0, none⟩) 1 1, .slice (some ⟨w.heap.size + 2, 0, none⟩) 3 3, .slice (some ⟨w.heap.size + 3, 0, none⟩) 3 3, .slice (some ⟨w.heap.size + 4, 0, none⟩) 3 3, .slice (some ⟨w.heap.size + 5, 0, none⟩) 3 3, .slice (some ⟨w.heap.size + 6, 0, none⟩) 2 2] 23] w 5 (by simp)) rfl rfl (by simp)⟩
  · obtain rfl : [2, 1] = r := by simpa using hi
    exact ⟨_, rfl, Sl_lit (allocs_at [.cells #[.int .i64 0, .int .i64 0, .slice none 0 0] 31, .cells #[.int .i64 1] 3, .cells #[.int .i64 9, .int .i64 0, .int .i64 4] 3, .cells #[.int .i64 1, .int .i64 1, .int .i64 2] 3, .cells #[.int .i64 8, .int .i64 0, .int .i64 5] 3, .cells #[.int .i64 1, .int .i64 1, .int .i64 1] 3, .cells #[.int .i64 2, .int .i64 1] 3, .cells #[.slice (some ⟨w.heap.size + 1, 0, none⟩) 1 1, .slice (some ⟨w.heap.size + 2, 0, none⟩) 3 3, .slice (some ⟨w.heap.size + 3, 0, none⟩) 3 3, .slice (some ⟨w.heap.size + 4, 0, none⟩) 3 3, .slice (some ⟨w.heap.size + 5, 0, none⟩) 3 3, .slice (some ⟨w.heap.size + 6, 0, none⟩) 2 2] 23] w 6 (by simp)) rfl rfl (by simp)⟩

set_option maxRecDepth 100000 in
set_option maxHeartbeats 8000000 in
theorem ssample_any (s : ByteArray) (w : World) :
    Calls Try.prog 55 #[.string s] w fun e w' => ∃ v', e = .returned v' ∧ PrgO w.heap.size w' v' (sampleProgramR0 s) ∧ Below w.heap.size w w' := by
  unfold sampleProgramR0
  have hl := ByteArray.toList_eq s
  obtain ⟨l, hll⟩ : ∃ l, l = s.data.toList := ⟨_, rfl⟩
  rw [← hll] at hl ⊢
  by_cases h0 : l = nm0
  · have d0 : (s.toList == [116, 104, 114, 111, 117, 103, 104]) = true := by rw [hl, h0]; rfl
    rw [h0, sampleR_0]
    clear hl hll h0
    have hb := Lib.hid (((((Below.refl w.heap.size w).al (.cells #[.int .i64 0, .int .i64 0, .slice none 0 0] 31)).al (.cells #[.int .i64 1] 3)).al (.cells #[.int .i64 2] 3)).al (.cells #[.slice (some ⟨w.heap.size + 1, 0, none⟩) 1 1, .slice (some ⟨w.heap.size + 2, 0, none⟩) 1 1] 23))
    have hS := Lib.hid (rows0 w)
    have hH := Lib.hid (show (((((w.alloc (.cells #[.int .i64 0, .int .i64 0, .slice none 0 0] 31)).alloc (.cells #[.int .i64 1] 3)).alloc (.cells #[.int .i64 2] 3)).alloc (.cells #[.slice (some ⟨w.heap.size + 1, 0, none⟩) 1 1, .slice (some ⟨w.heap.size + 2, 0, none⟩) 1 1] 23))).heap[w.heap.size]? = some (.cells #[.int .i64 0, .int .i64 0, .slice none 0 0] 31) from allocs_at [.cells #[.int .i64 0, .int .i64 0, .slice none 0 0] 31, .cells #[.int .i64 1] 3, .cells #[.int .i64 2] 3, .cells #[.slice (some ⟨w.heap.size + 1, 0, none⟩) 1 1, .slice (some ⟨w.heap.size + 2, 0, none⟩) 1 1] 23] w 0 (by simp))
    go_enter Try.func55, Try.ntmps55
    go_wp2_with fail
    refine (smake_any 1 1 _ [[1], [2]] _ hS.out (by decide) (by decide)).mono ?_
    rintro e w2 ⟨v', rfl, ⟨c, rfl, ho⟩, hb2⟩
    have B := blk_in hH.out hb2
    obtain ⟨c0, c1, c2⟩ := cells3 B
    have z0 := fr_of B 0
    have z1 := fr_of B 1
    have z2 := fr_of B 2
    obtain ⟨a', q', cc', rfl⟩ : ∃ a' q' cc', c = .slice a' q' cc' := by obtain ⟨x1, x2, x3⟩ := ho.shape; exact ⟨x1, _, x2, x3⟩
    have HO := Lib.hid (ho.mono (lo' := w.heap.size + 1) (by first | (simp; done) | (simp; omega)))
    have HB2 := Lib.hid hb2
    clear B ho hb2
    go_wp2_with fail
    refine bodyPost_ret (v := .agg #[.int .i64 1, .int .i64 1, .slice a' q' cc']) (by simp [results, Try.results55, go_sem, c0, c1, c2]) rfl ⟨_, rfl, ⟨_, rfl, ?_⟩, ?_⟩
    · exact (((HO.out.setB (by simp) _).setB (by simp) _).setB (by simp) _).mono (by omega)
    · exact (((hb.out.trans (HB2.out.mono (by simp; omega))).setCell (by simp) _).setCell (by simp) _).setCell (by simp) _
  · have d0 : (s.toList == [116, 104, 114, 111, 117, 103, 104]) = false := by rw [hl, beq_eq_false_iff_ne]; exact h0
    by_cases h1 : l = nm1
    · have d1 : (s.toList == [99, 111, 112, 121]) = true := by rw [hl, h1]; rfl
      rw [h1, sampleR_1]
      clear hl hll h1
      have hb := Lib.hid ((((((Below.refl w.heap.size w).al (.cells #[.int .i64 0, .int .i64 0, .slice none 0 0] 31)).al (.cells #[.int .i64 1] 3)).al (.cells #[.int .i64 2] 3)).al (.cells #[.int .i64 2, .int .i64 0, .int .i64 1] 3)).al (.cells #[.slice (some ⟨w.heap.size + 1, 0, none⟩) 1 1, .slice (some ⟨w.heap.size + 2, 0, none⟩) 1 1, .slice (some ⟨w.heap.size + 3, 0, none⟩) 3 3] 23))
      have hS := Lib.hid (rows1 w)
      have hH := Lib.hid (show ((((((w.alloc (.cells #[.int .i64 0, .int .i64 0, .slice none 0 0] 31)).alloc (.cells #[.int .i64 1] 3)).alloc (.cells #[.int .i64 2] 3)).alloc (.cells #[.int .i64 2, .int .i64 0, .int .i64 1] 3)).alloc (.cells #[.slice (some ⟨w.heap.size + 1, 0, none⟩) 1 1, .slice (some ⟨w.heap.size + 2, 0, none⟩) 1 1, .slice (some ⟨w.heap.size + 3, 0, none⟩) 3 3] 23))).heap[w.heap.size]? = some (.cells #[.int .i64 0, .int .i64 0, .slice none 0 0] 31) from allocs_at [.cells #[.int .i64 0, .int .i64 0, .slice none 0 0] 31, .cells #[.int .i64 1] 3, .cells #[.int .i64 2] 3, .cells #[.int .i64 2, .int .i64 0, .int .i64 1] 3, .cells #[.slice (some ⟨w.heap.size + 1, 0, none⟩) 1 1, .slice (some ⟨w.heap.size + 2, 0, none⟩) 1 1, .slice (some ⟨w.heap.size + 3, 0, none⟩) 3 3] 23] w 0 (by simp))
      go_enter Try.func55, Try.ntmps55
      go_wp2_with fail
      refine (smake_any 1 2 _ [[1], [2], [2, 0, 1]] _ hS.out (by decide) (by decide)).mono ?_
      rintro e w2 ⟨v', rfl, ⟨c, rfl, ho⟩, hb2⟩
      have B := blk_in hH.out hb2
      obtain ⟨c0, c1, c2⟩ := cells3 B
      have z0 := fr_of B 0
      have z1 := fr_of B 1
      have z2 := fr_of B 2
      obtain ⟨a', q', cc', rfl⟩ : ∃ a' q' cc', c = .slice a' q' cc' := by obtain ⟨x1, x2, x3⟩ := ho.shape; exact ⟨x1, _, x2, x3⟩
      have HO := Lib.hid (ho.mono (lo' := w.heap.size + 1) (by first | (simp; done) | (simp; omega)))
      have HB2 := Lib.hid hb2
      clear B ho hb2
      go_wp2_with fail
      refine bodyPost_ret (v := .agg #[.int .i64 1, .int .i64 2, .slice a' q' cc']) (by simp [results, Try.results55, go_sem, c0, c1, c2]) rfl ⟨_, rfl, ⟨_, rfl, ?_⟩, ?_⟩
      · exact (((HO.out.setB (by simp) _).setB (by simp) _).setB (by simp) _).mono (by omega)
      · exact (((hb.out.trans (HB2.out.mono (by simp; omega))).setCell (by simp) _).setCell (by simp) _).setCell (by simp) _
    · have d1 : (s.toList == [99, 111, 112, 121]) = false := by rw [hl, beq_eq_false_iff_ne]; exact h1
      by_cases h2 : l = nm2
      · have d2 : (s.toList == [115, 105, 110, 107]) = true := by rw [hl, h2]; rfl
        rw [h2, sampleR_2]
        clear hl hll h2
        have hb := Lib.hid ((((Below.refl w.heap.size w).al (.cells #[.int .i64 0, .int .i64 0, .slice none 0 0] 31)).al (.cells #[.int .i64 1] 3)).al (.cells #[.slice (some ⟨w.heap.size + 1, 0, none⟩) 1 1] 23))
        have hS := Lib.hid (rows2 w)
        have hH := Lib.hid (show ((((w.alloc (.cells #[.int .i64 0, .int .i64 0, .slice none 0 0] 31)).alloc (.cells #[.int .i64 1] 3)).alloc (.cells #[.slice (some ⟨w.heap.size + 1, 0, none⟩) 1 1] 23))).heap[w.heap.size]? = some (.cells #[.int .i64 0, .int .i64 0, .slice none 0 0] 31) from allocs_at [.cells #[.int .i64 0, .int .i64 0, .slice none 0 0] 31, .cells #[.int .i64 1] 3, .cells #[.slice (some ⟨w.heap.size + 1, 0, none⟩) 1 1] 23] w 0 (by simp))
        go_enter Try.func55, Try.ntmps55
        go_wp2_with fail
        refine (smake_any 1 0 _ [[1]] _ hS.out (by decide) (by decide)).mono ?_
        rintro e w2 ⟨v', rfl, ⟨c, rfl, ho⟩, hb2⟩
        have B := blk_in hH.out hb2
        obtain ⟨c0, c1, c2⟩ := cells3 B
        have z0 := fr_of B 0
        have z1 := fr_of B 1
        have z2 := fr_of B 2
        obtain ⟨a', q', cc', rfl⟩ : ∃ a' q' cc', c = .slice a' q' cc' := by obtain ⟨x1, x2, x3⟩ := ho.shape; exact ⟨x1, _, x2, x3⟩
        have HO := Lib.hid (ho.mono (lo' := w.heap.size + 1) (by first | (simp; done) | (simp; omega)))
        have HB2 := Lib.hid hb2
        clear B ho hb2
        go_wp2_with fail
        refine bodyPost_ret (v := .agg #[.int .i64 1, .int .i64 0, .slice a' q' cc']) (by simp [results, Try.results55, go_sem, c0, c1, c2]) rfl ⟨_, rfl, ⟨_, rfl, ?_⟩, ?_⟩
        · exact (((HO.out.setB (by simp) _).setB (by simp) _).setB (by simp) _).mono (by omega)
        · exact (((hb.out.trans (HB2.out.mono (by simp; omega))).setCell (by simp) _).setCell (by simp) _).setCell (by simp) _
      · have d2 : (s.toList == [115, 105, 110, 107]) = false := by rw [hl, beq_eq_false_iff_ne]; exact h2
        by_cases h3 : l = nm3
        · have d3 : (s.toList == [97, 100, 100]) = true := by rw [hl, h3]; rfl
          rw [h3, sampleR_3]
          clear hl hll h3
          have hb := Lib.hid (((((((Below.refl w.heap.size w).al (.cells #[.int .i64 0, .int .i64 0, .slice none 0 0] 31)).al (.cells #[.int .i64 1] 3)).al (.cells #[.int .i64 1, .int .i64 1, .int .i64 1] 3)).al (.cells #[.int .i64 4, .int .i64 0, .int .i64 0, .int .i64 1] 3)).al (.cells #[.int .i64 2] 3)).al (.cells #[.slice (some ⟨w.heap.size + 1, 0, none⟩) 1 1, .slice (some ⟨w.heap.size + 2, 0, none⟩) 3 3, .slice (some ⟨w.heap.size + 3, 0, none⟩) 4 4, .slice (some ⟨w.heap.size + 4, 0, none⟩) 1 1] 23))
          have hS := Lib.hid (rows3 w)
          have hH := Lib.hid (show (((((((w.alloc (.cells #[.int .i64 0, .int .i64 0, .slice none 0 0] 31)).alloc (.cells #[.int .i64 1] 3)).alloc (.cells #[.int .i64 1, .int .i64 1, .int .i64 1] 3)).alloc (.cells #[.int .i64 4, .int .i64 0, .int .i64 0, .int .i64 1] 3)).alloc (.cells #[.int .i64 2] 3)).alloc (.cells #[.slice (some ⟨w.heap.size + 1, 0, none⟩) 1 1, .slice (some ⟨w.heap.size + 2, 0, none⟩) 3 3, .slice (some ⟨w.heap.size + 3, 0, none⟩) 4 4, .slice (some ⟨w.heap.size + 4, 0, none⟩) 1 1] 23))).heap[w.heap.size]? = some (.cells #[.int .i64 0, .int .i64 0, .slice none 0 0] 31) from allocs_at [.cells #[.int .i64 0, .int .i64 0, .slice none 0 0] 31, .cells #[.int .i64 1] 3, .cells #[.int .i64 1, .int .i64 1, .int .i64 1] 3, .cells #[.int .i64 4, .int .i64 0, .int .i64 0, .int .i64 1] 3, .cells #[.int .i64 2] 3, .cells #[.slice (some ⟨w.heap.size + 1, 0, none⟩) 1 1, .slice (some ⟨w.heap.size + 2, 0, none⟩) 3 3, .slice (some ⟨w.heap.size + 3, 0, none⟩) 4 4, .slice (some ⟨w.heap.size + 4, 0, none⟩) 1 1] 23] w 0 (by simp))
          go_enter Try.func55, Try.ntmps55
          go_wp2_with fail
          refine (smake_any 2 1 _ [[1], [1, 1, 1], [4, 0, 0, 1], [2]] _ hS.out (by decide) (by decide)).mono ?_
          rintro e w2 ⟨v', rfl, ⟨c, rfl, ho⟩, hb2⟩
          have B := blk_in hH.out hb2
          obtain ⟨c0, c1, c2⟩ := cells3 B
          have z0 := fr_of B 0
          have z1 := fr_of B 1
          have z2 := fr_of B 2
          obtain ⟨a', q', cc', rfl⟩ : ∃ a' q' cc', c = .slice a' q' cc' := by obtain ⟨x1, x2, x3⟩ := ho.shape; exact ⟨x1, _, x2, x3⟩
          have HO := Lib.hid (ho.mono (lo' := w.heap.size + 1) (by first | (simp; done) | (simp; omega)))
          have HB2 := Lib.hid hb2
          clear B ho hb2
          go_wp2_with fail
          refine bodyPost_ret (v := .agg #[.int .i64 2, .int .i64 1, .slice a' q' cc']) (by simp [results, Try.results55, go_sem, c0, c1, c2]) rfl ⟨_, rfl, ⟨_, rfl, ?_⟩, ?_⟩
          · exact (((HO.out.setB (by simp) _).setB (by simp) _).setB (by simp) _).mono (by omega)
          · exact (((hb.out.trans (HB2.out.mono (by simp; omega))).setCell (by simp) _).setCell (by simp) _).setCell (by simp) _
        · have d3 : (s.toList == [97, 100, 100]) = false := by rw [hl, beq_eq_false_iff_ne]; exact h3
          by_cases h4 : l = nm4
          · have d4 : (s.toList == [97, 108, 116, 101, 114, 110, 97, 116, 101]) = true := by rw [hl, h4]; rfl
            rw [h4, sampleR_4]
            clear hl hll h4
            have hb := Lib.hid (((((((Below.refl w.heap.size w).al (.cells #[.int .i64 0, .int .i64 0, .slice none 0 0] 31)).al (.cells #[.int .i64 1] 3)).al (.cells #[.int .i64 2] 3)).al (.cells #[.int .i64 1, .int .i64 0, .int .i64 1] 3)).al (.cells #[.int .i64 2] 3)).al (.cells #[.slice (some ⟨w.heap.size + 1, 0, none⟩) 1 1, .slice (some ⟨w.heap.size + 2, 0, none⟩) 1 1, .slice (some ⟨w.heap.size + 3, 0, none⟩) 3 3, .slice (some ⟨w.heap.size + 4, 0, none⟩) 1 1] 23))
            have hS := Lib.hid (rows4 w)
            have hH := Lib.hid (show (((((((w.alloc (.cells #[.int .i64 0, .int .i64 0, .slice none 0 0] 31)).alloc (.cells #[.int .i64 1] 3)).alloc (.cells #[.int .i64 2] 3)).alloc (.cells #[.int .i64 1, .int .i64 0, .int .i64 1] 3)).alloc (.cells #[.int .i64 2] 3)).alloc (.cells #[.slice (some ⟨w.heap.size + 1, 0, none⟩) 1 1, .slice (some ⟨w.heap.size + 2, 0, none⟩) 1 1, .slice (some ⟨w.heap.size + 3, 0, none⟩) 3 3, .slice (some ⟨w.heap.size + 4, 0, none⟩) 1 1] 23))).heap[w.heap.size]? = some (.cells #[.int .i64 0, .int .i64 0, .slice none 0 0] 31) from allocs_at [.cells #[.int .i64 0, .int .i64 0, .slice none 0 0] 31, .cells #[.int .i64 1] 3, .cells #[.int .i64 2] 3, .cells #[.int .i64 1, .int .i64 0, .int .i64 1] 3, .cells #[.int .i64 2] 3, .cells #[.slice (some ⟨w.heap.size + 1, 0, none⟩) 1 1, .slice (some ⟨w.heap.size + 2, 0, none⟩) 1 1, .slice (some ⟨w.heap.size + 3, 0, none⟩) 3 3, .slice (some ⟨w.heap.size + 4, 0, none⟩) 1 1] 23] w 0 (by simp))
            go_enter Try.func55, Try.ntmps55
            go_wp2_with fail
            refine (smake_any 2 1 _ [[1], [2], [1, 0, 1], [2]] _ hS.out (by decide) (by decide)).mono ?_
            rintro e w2 ⟨v', rfl, ⟨c, rfl, ho⟩, hb2⟩
            have B := blk_in hH.out hb2
            obtain ⟨c0, c1, c2⟩ := cells3 B
            have z0 := fr_of B 0
            have z1 := fr_of B 1
            have z2 := fr_of B 2
            obtain ⟨a', q', cc', rfl⟩ : ∃ a' q' cc', c = .slice a' q' cc' := by obtain ⟨x1, x2, x3⟩ := ho.shape; exact ⟨x1, _, x2, x3⟩
            have HO := Lib.hid (ho.mono (lo' := w.heap.size + 1) (by first | (simp; done) | (simp; omega)))
            have HB2 := Lib.hid hb2
            clear B ho hb2
            go_wp2_with fail
            refine bodyPost_ret (v := .agg #[.int .i64 2, .int .i64 1, .slice a' q' cc']) (by simp [results, Try.results55, go_sem, c0, c1, c2]) rfl ⟨_, rfl, ⟨_, rfl, ?_⟩, ?_⟩
            · exact (((HO.out.setB (by simp) _).setB (by simp) _).setB (by simp) _).mono (by omega)
            · exact (((hb.out.trans (HB2.out.mono (by simp; omega))).setCell (by simp) _).setCell (by simp) _).setCell (by simp) _
          · have d4 : (s.toList == [97, 108, 116, 101, 114, 110, 97, 116, 101]) = false := by rw [hl, beq_eq_false_iff_ne]; exact h4
            by_cases h5 : l = nm5
            · have d5 : (s.toList == [115, 112, 108, 105, 116]) = true := by rw [hl, h5]; rfl
              rw [h5, sampleR_5]
              clear hl hll h5
              have hb := Lib.hid (((((((Below.refl w.heap.size w).al (.cells #[.int .i64 0, .int .i64 0, .slice none 0 0] 31)).al (.cells #[.int .i64 1] 3)).al (.cells #[.int .i64 2] 3)).al (.cells #[.int .i64 1] 3)).al (.cells #[.int .i64 2, .int .i64 0, .int .i64 1] 3)).al (.cells #[.slice (some ⟨w.heap.size + 1, 0, none⟩) 1 1, .slice (some ⟨w.heap.size + 2, 0, none⟩) 1 1, .slice (some ⟨w.heap.size + 3, 0, none⟩) 1 1, .slice (some ⟨w.heap.size + 4, 0, none⟩) 3 3] 23))
              have hS := Lib.hid (rows5 w)
              have hH := Lib.hid (show (((((((w.alloc (.cells #[.int .i64 0, .int .i64 0, .slice none 0 0] 31)).alloc (.cells #[.int .i64 1] 3)).alloc (.cells #[.int .i64 2] 3)).alloc (.cells #[.int .i64 1] 3)).alloc (.cells #[.int .i64 2, .int .i64 0, .int .i64 1] 3)).alloc (.cells #[.slice (some ⟨w.heap.size + 1, 0, none⟩) 1 1, .slice (some ⟨w.heap.size + 2, 0, none⟩) 1 1, .slice (some ⟨w.heap.size + 3, 0, none⟩) 1 1, .slice (some ⟨w.heap.size + 4, 0, none⟩) 3 3] 23))).heap[w.heap.size]? = some (.cells #[.int .i64 0, .int .i64 0, .slice none 0 0] 31) from allocs_at [.cells #[.int .i64 0, .int .i64 0, .slice none 0 0] 31, .cells #[.int .i64 1] 3, .cells #[.int .i64 2] 3, .cells #[.int .i64 1] 3, .cells #[.int .i64 2, .int .i64 0, .int .i64 1] 3, .cells #[.slice (some ⟨w.heap.size + 1, 0, none⟩) 1 1, .slice (some ⟨w.heap.size + 2, 0, none⟩) 1 1, .slice (some ⟨w.heap.size + 3, 0, none⟩) 1 1, .slice (some ⟨w.heap.size + 4, 0, none⟩) 3 3] 23] w 0 (by simp))
              go_enter Try.func55, Try.ntmps55
              go_wp2_with fail
              refine (smake_any 1 2 _ [[1], [2], [1], [2, 0, 1]] _ hS.out (by decide) (by decide)).mono ?_
              rintro e w2 ⟨v', rfl, ⟨c, rfl, ho⟩, hb2⟩
              have B := blk_in hH.out hb2
              obtain ⟨c0, c1, c2⟩ := cells3 B
              have z0 := fr_of B 0
              have z1 := fr_of B 1
              have z2 := fr_of B 2
              obtain ⟨a', q', cc', rfl⟩ : ∃ a' q' cc', c = .slice a' q' cc' := by obtain ⟨x1, x2, x3⟩ := ho.shape; exact ⟨x1, _, x2, x3⟩
              have HO := Lib.hid (ho.mono (lo' := w.heap.size + 1) (by first | (simp; done) | (simp; omega)))
              have HB2 := Lib.hid hb2
              clear B ho hb2
              go_wp2_with fail
              refine bodyPost_ret (v := .agg #[.int .i64 1, .int .i64 2, .slice a' q' cc']) (by simp [results, Try.results55, go_sem, c0, c1, c2]) rfl ⟨_, rfl, ⟨_, rfl, ?_⟩, ?_⟩
              · exact (((HO.out.setB (by simp) _).setB (by simp) _).setB (by simp) _).mono (by omega)
              · exact (((hb.out.trans (HB2.out.mono (by simp; omega))).setCell (by simp) _).setCell (by simp) _).setCell (by simp) _
            · have d5 : (s.toList == [115, 112, 108, 105, 116]) = false := by rw [hl, beq_eq_false_iff_ne]; exact h5
              by_cases h6 : l = nm6
              · have d6 : (s.toList == [115, 117, 109, 115]) = true := by rw [hl, h6]; rfl
                rw [h6, sampleR_6]
                clear hl hll h6
                have hb := Lib.hid ((((((Below.refl w.heap.size w).al (.cells #[.int .i64 0, .int .i64 0, .slice none 0 0] 31)).al (.cells #[.int .i64 1, .int .i64 1] 3)).al (.cells #[.int .i64 4, .int .i64 0, .int .i64 0, .int .i64 1] 3)).al (.cells #[.int .i64 2] 3)).al (.cells #[.slice (some ⟨w.heap.size + 1, 0, none⟩) 2 2, .slice (some ⟨w.heap.size + 2, 0, none⟩) 4 4, .slice (some ⟨w.heap.size + 3, 0, none⟩) 1 1] 23))
                have hS := Lib.hid (rows6 w)
                have hH := Lib.hid (show ((((((w.alloc (.cells #[.int .i64 0, .int .i64 0, .slice none 0 0] 31)).alloc (.cells #[.int .i64 1, .int .i64 1] 3)).alloc (.cells #[.int .i64 4, .int .i64 0, .int .i64 0, .int .i64 1] 3)).alloc (.cells #[.int .i64 2] 3)).alloc (.cells #[.slice (some ⟨w.heap.size + 1, 0, none⟩) 2 2, .slice (some ⟨w.heap.size + 2, 0, none⟩) 4 4, .slice (some ⟨w.heap.size + 3, 0, none⟩) 1 1] 23))).heap[w.heap.size]? = some (.cells #[.int .i64 0, .int .i64 0, .slice none 0 0] 31) from allocs_at [.cells #[.int .i64 0, .int .i64 0, .slice none 0 0] 31, .cells #[.int .i64 1, .int .i64 1] 3, .cells #[.int .i64 4, .int .i64 0, .int .i64 0, .int .i64 1] 3, .cells #[.int .i64 2] 3, .cells #[.slice (some ⟨w.heap.size + 1, 0, none⟩) 2 2, .slice (some ⟨w.heap.size + 2, 0, none⟩) 4 4, .slice (some ⟨w.heap.size + 3, 0, none⟩) 1 1] 23] w 0 (by simp))
                go_enter Try.func55, Try.ntmps55
                go_wp2_with fail
                refine (smake_any 1 1 _ [[1, 1], [4, 0, 0, 1], [2]] _ hS.out (by decide) (by decide)).mono ?_
                rintro e w2 ⟨v', rfl, ⟨c, rfl, ho⟩, hb2⟩
                have B := blk_in hH.out hb2
                obtain ⟨c0, c1, c2⟩ := cells3 B
                have z0 := fr_of B 0
                have z1 := fr_of B 1
                have z2 := fr_of B 2
                obtain ⟨a', q', cc', rfl⟩ : ∃ a' q' cc', c = .slice a' q' cc' := by obtain ⟨x1, x2, x3⟩ := ho.shape; exact ⟨x1, _, x2, x3⟩
                have HO := Lib.hid (ho.mono (lo' := w.heap.size + 1) (by first | (simp; done) | (simp; omega)))
                have HB2 := Lib.hid hb2
                clear B ho hb2
                go_wp2_with fail
                refine bodyPost_ret (v := .agg #[.int .i64 1, .int .i64 1, .slice a' q' cc']) (by simp [results, Try.results55, go_sem, c0, c1, c2]) rfl ⟨_, rfl, ⟨_, rfl, ?_⟩, ?_⟩
                · exact (((HO.out.setB (by simp) _).setB (by simp) _).setB (by simp) _).mono (by omega)
                · exact (((hb.out.trans (HB2.out.mono (by simp; omega))).setCell (by simp) _).setCell (by simp) _).setCell (by simp) _
              · have d6 : (s.toList == [115, 117, 109, 115]) = false := by rw [hl, beq_eq_false_iff_ne]; exact h6
                by_cases h7 : l = nm7
                · have d7 : (s.toList == [115, 116, 101, 112, 115]) = true := by rw [hl, h7]; rfl
                  rw [h7, sampleR_7]
                  clear hl hll h7
                  have hb := Lib.hid ((((((((Below.refl w.heap.size w).al (.cells #[.int .i64 0, .int .i64 0, .slice none 0 0] 31)).al (.cells #[.int .i64 1, .int .i64 1] 3)).al (.cells #[.int .i64 5, .int .i64 2, .int .i64 1, .int .i64 0] 3)).al (.cells #[.int .i64 2, .int .i64 2] 3)).al (.cells #[.int .i64 3, .int .i64 3] 3)).al (.cells #[.int .i64 4, .int .i64 0, .int .i64 1, .int .i64 3] 3)).al (.cells #[.slice (some ⟨w.heap.size + 1, 0, none⟩) 2 2, .slice (some ⟨w.heap.size + 2, 0, none⟩) 4 4, .slice (some ⟨w.heap.size + 3, 0, none⟩) 2 2, .slice (some ⟨w.heap.size + 4, 0, none⟩) 2 2, .slice (some ⟨w.heap.size + 5, 0, none⟩) 4 4] 23))
                  have hS := Lib.hid (rows7 w)
                  have hH := Lib.hid (show ((((((((w.alloc (.cells #[.int .i64 0, .int .i64 0, .slice none 0 0] 31)).alloc (.cells #[.int .i64 1, .int .i64 1] 3)).alloc (.cells #[.int .i64 5, .int .i64 2, .int .i64 1, .int .i64 0] 3)).alloc (.cells #[.int .i64 2, .int .i64 2] 3)).alloc (.cells #[.int .i64 3, .int .i64 3] 3)).alloc (.cells #[.int .i64 4, .int .i64 0, .int .i64 1, .int .i64 3] 3)).alloc (.cells #[.slice (some ⟨w.heap.size + 1, 0, none⟩) 2 2, .slice (some ⟨w.heap.size + 2, 0, none⟩) 4 4, .slice (some ⟨w.heap.size + 3, 0, none⟩) 2 2, .slice (some ⟨w.heap.size + 4, 0, none⟩) 2 2, .slice (some ⟨w.heap.size + 5, 0, none⟩) 4 4] 23))).heap[w.heap.size]? = some (.cells #[.int .i64 0, .int .i64 0, .slice none 0 0] 31) from allocs_at [.cells #[.int .i64 0, .int .i64 0, .slice none 0 0] 31, .cells #[.int .i64 1, .int .i64 1] 3, .cells #[.int .i64 5, .int .i64 2, .int .i64 1, .int .i64 0] 3, .cells #[.int .i64 2, .int .i64 2] 3, .cells #[.int .i64 3, .int .i64 3] 3, .cells #[.int .i64 4, .int .i64 0, .int .i64 1, .int .i64 3] 3, .cells #[.slice (some ⟨w.heap.size + 1, 0, none⟩) 2 2, .slice (some ⟨w.heap.size + 2, 0, none⟩) 4 4, .slice (some ⟨w.heap.size + 3, 0, none⟩) 2 2, .slice (some ⟨w.heap.size + 4, 0, none⟩) 2 2, .slice (some ⟨w.heap.size + 5, 0, none⟩) 4 4] 23] w 0 (by simp))
                  go_enter Try.func55, Try.ntmps55
                  go_wp2_with fail
                  refine (smake_any 1 1 _ [[1, 1], [5, 2, 1, 0], [2, 2], [3, 3], [4, 0, 1, 3]] _ hS.out (by decide) (by decide)).mono ?_
                  rintro e w2 ⟨v', rfl, ⟨c, rfl, ho⟩, hb2⟩
                  have B := blk_in hH.out hb2
                  obtain ⟨c0, c1, c2⟩ := cells3 B
                  have z0 := fr_of B 0
                  have z1 := fr_of B 1
                  have z2 := fr_of B 2
                  obtain ⟨a', q', cc', rfl⟩ : ∃ a' q' cc', c = .slice a' q' cc' := by obtain ⟨x1, x2, x3⟩ := ho.shape; exact ⟨x1, _, x2, x3⟩
                  have HO := Lib.hid (ho.mono (lo' := w.heap.size + 1) (by first | (simp; done) | (simp; omega)))
                  have HB2 := Lib.hid hb2
                  clear B ho hb2
                  go_wp2_with fail
                  refine bodyPost_ret (v := .agg #[.int .i64 1, .int .i64 1, .slice a' q' cc']) (by simp [results, Try.results55, go_sem, c0, c1, c2]) rfl ⟨_, rfl, ⟨_, rfl, ?_⟩, ?_⟩
                  · exact (((HO.out.setB (by simp) _).setB (by simp) _).setB (by simp) _).mono (by omega)
                  · exact (((hb.out.trans (HB2.out.mono (by simp; omega))).setCell (by simp) _).setCell (by simp) _).setCell (by simp) _
                · have d7 : (s.toList == [115, 116, 101, 112, 115]) = false := by rw [hl, beq_eq_false_iff_ne]; exact h7
                  by_cases h8 : l = nm8
                  · have d8 : (s.toList == [116, 119, 105, 99, 101]) = true := by rw [hl, h8]; rfl
                    rw [h8, sampleR_8]
                    clear hl hll h8
                    have hb := Lib.hid ((((((Below.refl w.heap.size w).al (.cells #[.int .i64 0, .int .i64 0, .slice none 0 0] 31)).al (.cells #[.int .i64 1] 3)).al (.cells #[.int .i64 2] 3)).al (.cells #[.int .i64 2] 3)).al (.cells #[.slice (some ⟨w.heap.size + 1, 0, none⟩) 1 1, .slice (some ⟨w.heap.size + 2, 0, none⟩) 1 1, .slice (some ⟨w.heap.size + 3, 0, none⟩) 1 1] 23))
                    have hS := Lib.hid (rows8 w)
                    have hH := Lib.hid (show ((((((w.alloc (.cells #[.int .i64 0, .int .i64 0, .slice none 0 0] 31)).alloc (.cells #[.int .i64 1] 3)).alloc (.cells #[.int .i64 2] 3)).alloc (.cells #[.int .i64 2] 3)).alloc (.cells #[.slice (some ⟨w.heap.size + 1, 0, none⟩) 1 1, .slice (some ⟨w.heap.size + 2, 0, none⟩) 1 1, .slice (some ⟨w.heap.size + 3, 0, none⟩) 1 1] 23))).heap[w.heap.size]? = some (.cells #[.int .i64 0, .int .i64 0, .slice none 0 0] 31) from allocs_at [.cells #[.int .i64 0, .int .i64 0, .slice none 0 0] 31, .cells #[.int .i64 1] 3, .cells #[.int .i64 2] 3, .cells #[.int .i64 2] 3, .cells #[.slice (some ⟨w.heap.size + 1, 0, none⟩) 1 1, .slice (some ⟨w.heap.size + 2, 0, none⟩) 1 1, .slice (some ⟨w.heap.size + 3, 0, none⟩) 1 1] 23] w 0 (by simp))
                    go_enter Try.func55, Try.ntmps55
                    go_wp2_with fail
                    refine (smake_any 1 1 _ [[1], [2], [2]] _ hS.out (by decide) (by decide)).mono ?_
                    rintro e w2 ⟨v', rfl, ⟨c, rfl, ho⟩, hb2⟩
                    have B := blk_in hH.out hb2
                    obtain ⟨c0, c1, c2⟩ := cells3 B
                    have z0 := fr_of B 0
                    have z1 := fr_of B 1
                    have z2 := fr_of B 2
                    obtain ⟨a', q', cc', rfl⟩ : ∃ a' q' cc', c = .slice a' q' cc' := by obtain ⟨x1, x2, x3⟩ := ho.shape; exact ⟨x1, _, x2, x3⟩
                    have HO := Lib.hid (ho.mono (lo' := w.heap.size + 1) (by first | (simp; done) | (simp; omega)))
                    have HB2 := Lib.hid hb2
                    clear B ho hb2
                    go_wp2_with fail
                    refine bodyPost_ret (v := .agg #[.int .i64 1, .int .i64 1, .slice a' q' cc']) (by simp [results, Try.results55, go_sem, c0, c1, c2]) rfl ⟨_, rfl, ⟨_, rfl, ?_⟩, ?_⟩
                    · exact (((HO.out.setB (by simp) _).setB (by simp) _).setB (by simp) _).mono (by omega)
                    · exact (((hb.out.trans (HB2.out.mono (by simp; omega))).setCell (by simp) _).setCell (by simp) _).setCell (by simp) _
                  · have d8 : (s.toList == [116, 119, 105, 99, 101]) = false := by rw [hl, beq_eq_false_iff_ne]; exact h8
                    by_cases h9 : l = nm9
                    · have d9 : (s.toList == [99, 111, 117, 110, 116]) = true := by rw [hl, h9]; rfl
                      rw [h9, sampleR_9]
                      clear hl hll h9
                      have hb := Lib.hid ((((((Below.refl w.heap.size w).al (.cells #[.int .i64 0, .int .i64 0, .slice none 0 0] 31)).al (.cells #[.int .i64 2] 3)).al (.cells #[.int .i64 3, .int .i64 1, .int .i64 1] 3)).al (.cells #[.int .i64 4, .int .i64 0, .int .i64 0, .int .i64 1] 3)).al (.cells #[.slice (some ⟨w.heap.size + 1, 0, none⟩) 1 1, .slice (some ⟨w.heap.size + 2, 0, none⟩) 3 3, .slice (some ⟨w.heap.size + 3, 0, none⟩) 4 4] 23))
                      have hS := Lib.hid (rows9 w)
                      have hH := Lib.hid (show ((((((w.alloc (.cells #[.int .i64 0, .int .i64 0, .slice none 0 0] 31)).alloc (.cells #[.int .i64 2] 3)).alloc (.cells #[.int .i64 3, .int .i64 1, .int .i64 1] 3)).alloc (.cells #[.int .i64 4, .int .i64 0, .int .i64 0, .int .i64 1] 3)).alloc (.cells #[.slice (some ⟨w.heap.size + 1, 0, none⟩) 1 1, .slice (some ⟨w.heap.size + 2, 0, none⟩) 3 3, .slice (some ⟨w.heap.size + 3, 0, none⟩) 4 4] 23))).heap[w.heap.size]? = some (.cells #[.int .i64 0, .int .i64 0, .slice none 0 0] 31) from allocs_at [.cells #[.int .i64 0, .int .i64 0, .slice none 0 0] 31, .cells #[.int .i64 2] 3, .cells #[.int .i64 3, .int .i64 1, .int .i64 1] 3, .cells #[.int .i64 4, .int .i64 0, .int .i64 0, .int .i64 1] 3, .cells #[.slice (some ⟨w.heap.size + 1, 0, none⟩) 1 1, .slice (some ⟨w.heap.size + 2, 0, none⟩) 3 3, .slice (some ⟨w.heap.size + 3, 0, none⟩) 4 4] 23] w 0 (by simp))
                      go_enter Try.func55, Try.ntmps55
                      go_wp2_with fail
                      refine (smake_any 0 1 _ [[2], [3, 1, 1], [4, 0, 0, 1]] _ hS.out (by decide) (by decide)).mono ?_
                      rintro e w2 ⟨v', rfl, ⟨c, rfl, ho⟩, hb2⟩
                      have B := blk_in hH.out hb2
                      obtain ⟨c0, c1, c2⟩ := cells3 B
                      have z0 := fr_of B 0
                      have z1 := fr_of B 1
                      have z2 := fr_of B 2
                      obtain ⟨a', q', cc', rfl⟩ : ∃ a' q' cc', c = .slice a' q' cc' := by obtain ⟨x1, x2, x3⟩ := ho.shape; exact ⟨x1, _, x2, x3⟩
                      have HO := Lib.hid (ho.mono (lo' := w.heap.size + 1) (by first | (simp; done) | (simp; omega)))
                      have HB2 := Lib.hid hb2
                      clear B ho hb2
                      go_wp2_with fail
                      refine bodyPost_ret (v := .agg #[.int .i64 0, .int .i64 1, .slice a' q' cc']) (by simp [results, Try.results55, go_sem, c0, c1, c2]) rfl ⟨_, rfl, ⟨_, rfl, ?_⟩, ?_⟩
                      · exact (((HO.out.setB (by simp) _).setB (by simp) _).setB (by simp) _).mono (by omega)
                      · exact (((hb.out.trans (HB2.out.mono (by simp; omega))).setCell (by simp) _).setCell (by simp) _).setCell (by simp) _
                    · have d9 : (s.toList == [99, 111, 117, 110, 116]) = false := by rw [hl, beq_eq_false_iff_ne]; exact h9
                      by_cases h10 : l = nm10
                      · have d10 : (s.toList == [112, 105, 99, 107]) = true := by rw [hl, h10]; rfl
                        rw [h10, sampleR_10]
                        clear hl hll h10
                        have hb := Lib.hid (((((((((Below.refl w.heap.size w).al (.cells #[.int .i64 0, .int .i64 0, .slice none 0 0] 31)).al (.cells #[.int .i64 1] 3)).al (.cells #[.int .i64 9, .int .i64 0, .int .i64 4] 3)).al (.cells #[.int .i64 1, .int .i64 1, .int .i64 2] 3)).al (.cells #[.int .i64 8, .int .i64 0, .int .i64 5] 3)).al (.cells #[.int .i64 1, .int .i64 1, .int .i64 1] 3)).al (.cells #[.int .i64 2, .int .i64 1] 3)).al (.cells #[.slice (some ⟨w.heap.size + 1, 0, none⟩) 1 1, .slice (some ⟨w.heap.size + 2, 0, none⟩) 3 3, .slice (some ⟨w.heap.size + 3, 0, none⟩) 3 3, .slice (some ⟨w.heap.size + 4, 0, none⟩) 3 3, .slice (some ⟨w.heap.size + 5, 0, none⟩) 3 3, .slice (some ⟨w.heap.size + 6, 0, none⟩) 2 2] 23))
                        have hS := Lib.hid (rows10 w)
                        have hH := Lib.hid (show (((((((((w.alloc (.cells #[.int .i64 0, .int .i64 0, .slice none 0 0] 31)).alloc (.cells #[.int .i64 1] 3)).alloc (.cells #[.int .i64 9, .int .i64 0, .int .i64 4] 3)).alloc (.cells #[.int .i64 1, .int .i64 1, .int .i64 2] 3)).alloc (.cells #[.int .i64 8, .int .i64 0, .int .i64 5] 3)).alloc (.cells #[.int .i64 1, .int .i64 1, .int .i64 1] 3)).alloc (.cells #[.int .i64 2, .int .i64 1] 3)).alloc (.cells #[.slice (some ⟨w.heap.size + 1, 0, none⟩) 1 1, .slice (some ⟨w.heap.size + 2, 0, none⟩) 3 3, .slice (some ⟨w.heap.size + 3, 0, none⟩) 3 3, .slice (some ⟨w.heap.size + 4, 0, none⟩) 3 3, .slice (some ⟨w.heap.size + 5, 0, none⟩) 3 3, .slice (some ⟨w.heap.size + 6, 0, none⟩) 2 2] 23))).heap[w.heap.size]? = some (.cells #[.int .i64 0, .int .i64 0, .slice none 0 0] 31) from allocs_at [.cells #[.int .i64 0, .int .i64 0, .slice none 0 0] 31, .cells #[.int .i64 1] 3, .cells #[.int .i64 9, .int .i64 0, .int .i64 4] 3, .cells #[.int .i64 1, .int .i64 1, .int .i64 2] 3, .cells #[.int .i64 8, .int .i64 0, .int .i64 5] 3, .cells #[.int .i64 1, .int .i64 1, .int .i64 1] 3, .cells #[.int .i64 2, .int .i64 1] 3, .cells #[.slice (some ⟨w.heap.size + 1, 0, none⟩) 1 1, .slice (some ⟨w.heap.size + 2, 0, none⟩) 3 3, .slice (some ⟨w.heap.size + 3, 0, none⟩) 3 3, .slice (some ⟨w.heap.size + 4, 0, none⟩) 3 3, .slice (some ⟨w.heap.size + 5, 0, none⟩) 3 3, .slice (some ⟨w.heap.size + 6, 0, none⟩) 2 2] 23] w 0 (by simp))
                        go_enter Try.func55, Try.ntmps55
                        go_wp2_with fail
                        refine (smake_any 3 1 _ [[1], [9, 0, 4], [1, 1, 2], [8, 0, 5], [1, 1, 1], [2, 1]] _ hS.out (by decide) (by decide)).mono ?_
                        rintro e w2 ⟨v', rfl, ⟨c, rfl, ho⟩, hb2⟩
                        have B := blk_in hH.out hb2
                        obtain ⟨c0, c1, c2⟩ := cells3 B
                        have z0 := fr_of B 0
                        have z1 := fr_of B 1
                        have z2 := fr_of B 2
                        obtain ⟨a', q', cc', rfl⟩ : ∃ a' q' cc', c = .slice a' q' cc' := by obtain ⟨x1, x2, x3⟩ := ho.shape; exact ⟨x1, _, x2, x3⟩
                        have HO := Lib.hid (ho.mono (lo' := w.heap.size + 1) (by first | (simp; done) | (simp; omega)))
                        have HB2 := Lib.hid hb2
                        clear B ho hb2
                        go_wp2_with fail
                        refine bodyPost_ret (v := .agg #[.int .i64 3, .int .i64 1, .slice a' q' cc']) (by simp [results, Try.results55, go_sem, c0, c1, c2]) rfl ⟨_, rfl, ⟨_, rfl, ?_⟩, ?_⟩
                        · exact (((HO.out.setB (by simp) _).setB (by simp) _).setB (by simp) _).mono (by omega)
                        · exact (((hb.out.trans (HB2.out.mono (by simp; omega))).setCell (by simp) _).setCell (by simp) _).setCell (by simp) _
                      · have d10 : (s.toList == [112, 105, 99, 107]) = false := by rw [hl, beq_eq_false_iff_ne]; exact h10
                        rw [sampleR_no h0 h1 h2 h3 h4 h5 h6 h7 h8 h9 h10]
                        clear hl hll h0 h1 h2 h3 h4 h5 h6 h7 h8 h9 h10
                        have hb := Lib.hid ((Below.refl w.heap.size w).al (.cells #[.int .i64 0, .int .i64 0, .slice none 0 0] 31))
                        go_enter Try.func55, Try.ntmps55
                        go_wp2_with fail
                        refine bodyPost_ret (v := .agg #[.int .i64 0, .int .i64 0, .slice none 0 0]) (by simp [results, Try.results55, go_sem]) rfl ⟨_, rfl, ⟨_, rfl, OwnI.nil _ _⟩, ?_⟩
                        exact hb.out

end Go.Proofs.Ythniafpkkgcjnaa
