/-
  slices.Grow of a nil slice. No statement of the seat is proved here.
-/
import Derived.Test.YtkeoefbkeommhaaNetPM
import Derived.Lib.AppendZerosOnto
namespace Go.Proofs.Ytkeoefbkeommhaa
open Go.RowKit
def pick3 {α : Type} (k : Nat) (a b c : α) : α := match k with | 0 => a | 1 => b | _ => c

set_option maxRecDepth 100000 in
set_option maxHeartbeats 4000000 in
theorem igrowP_any (n : Nat) (w : World) (hn : n ≤ 3000000) :
    Calls Try.prog 125 #[.slice none 0 0, .int .i64 n] w fun e w' => ∃ v, e = .returned v ∧ w'.ownsRow w.heap.size 79 3 v 0 [] ∧ Below w.heap.size w w' := by
  obtain ⟨i0, hi, hz0, hz1, hz2⟩ := infoP_parts
  by_cases h0 : n = 0
  · subst h0
    go_enter Try.func125, Try.ntmps125
    go_wp2_with fail
    go_ret
    exact ⟨_, rfl, World.ownsRow_nil _ _ _ _, Below.refl _ _⟩
  · have h2 : wrap64 ((n : Int) - 0) = (n : Int) := by unfold wrap64; omega
    have d1 : decide ((n : Int) < 0) = false := decide_eq_false (by omega)
    have d2 : decide ((n : Int) > 0) = true := decide_eq_true (by omega)
    have d3 : decide (0 < (n : Int)) = true := decide_eq_true (by omega)
    have d4 : 0 < n := by omega
    have hold : (Builtin.firstCells i0.size 0 (.slice none 0 0)).run Try.prog w.drew = .ok #[] w.drew := run_firstCells_none w.drew i0.size 0 0 0
    have hrz : ∀ ty, (Builtin.append_ #[28, 3] ty #[.slice none 0 0, .int .i64 (n : Int)]).run Try.prog w =
        .ok (.slice (some ⟨w.heap.size, 0, none⟩) n (grownCap w n 0 79)) (w.drew.alloc (.cells (#[] ++ Builtin.zeroCells (Value.cells (.agg #[.int .i64 0, .int .i64 0, .slice none 0 0])) n ++ Builtin.zeroCells (Value.cells (.agg #[.int .i64 0, .int .i64 0, .slice none 0 0])) (grownCap w n 0 79 - n)) 79)) := fun ty => by
      have h := Lib.run_append_grow_zeros w 28 3 ty 79 i0 _ .i64 .i64 Try.underlying28 Try.underlying3 hi hz0 none 0 0 [] hold n d4 (by rw [hz1]; decide) (by omega) (by omega) (by rw [hz2]; omega) (by rw [hz2]; exact growslice_fits (by omega) (by omega))
      simpa using h
    have hGn : n ≤ grownCap w n 0 79 := grownCap_ge w _ _ _
    have hGm := grownCap_le_maxLen w n 0 79 (by unfold maxLen; omega)
    obtain ⟨G, hG⟩ : ∃ G, G = grownCap w n 0 79 := ⟨_, rfl⟩
    rw [← hG] at hrz hGn hGm
    clear hG hold
    have hG63 : G ≤ 9223372036854775807 := by unfold maxLen at hGm; omega
    go_enter Try.func125, Try.ntmps125
    go_wp2_with (at_builtin; refine Lib.wpList_append_run _ rfl _ _ _ _ rfl _ _ rfl rfl _ _ (hrz _) ?_)
    go_ret
    refine ⟨_, rfl, ⟨rfl, .inr ⟨w.heap.size, G, _, rfl, Nat.le_refl _, hp1 w.drew _, Nat.zero_le _, hGm, ?_, rfl⟩⟩, (Below.refl _ _).drew.al _⟩
    simp [size_zeroCells]
    omega

set_option maxRecDepth 100000 in
set_option maxHeartbeats 4000000 in
theorem igrowL_any (n : Nat) (w : World) (hn : n ≤ 3000000) :
    Calls Try.prog 126 #[.slice none 0 0, .int .i64 n] w fun e w' => ∃ v, e = .returned v ∧ w'.ownsRow w.heap.size 68 5 v 0 [] ∧ Below w.heap.size w w' := by
  obtain ⟨i0, hi, hz0, hz1, hz2⟩ := infoL_parts
  by_cases h0 : n = 0
  · subst h0
    go_enter Try.func126, Try.ntmps126
    go_wp2_with fail
    go_ret
    exact ⟨_, rfl, World.ownsRow_nil _ _ _ _, Below.refl _ _⟩
  · have h2 : wrap64 ((n : Int) - 0) = (n : Int) := by unfold wrap64; omega
    have d1 : decide ((n : Int) < 0) = false := decide_eq_false (by omega)
    have d2 : decide ((n : Int) > 0) = true := decide_eq_true (by omega)
    have d3 : decide (0 < (n : Int)) = true := decide_eq_true (by omega)
    have d4 : 0 < n := by omega
    have hold : (Builtin.firstCells i0.size 0 (.slice none 0 0)).run Try.prog w.drew = .ok #[] w.drew := run_firstCells_none w.drew i0.size 0 0 0
    have hrz : ∀ ty, (Builtin.append_ #[29, 3] ty #[.slice none 0 0, .int .i64 (n : Int)]).run Try.prog w =
        .ok (.slice (some ⟨w.heap.size, 0, none⟩) n (grownCap w n 0 68)) (w.drew.alloc (.cells (#[] ++ Builtin.zeroCells (Value.cells (.agg #[.int .i64 0, .int .i64 0, .int .i64 0, .int .i64 0, .slice none 0 0])) n ++ Builtin.zeroCells (Value.cells (.agg #[.int .i64 0, .int .i64 0, .int .i64 0, .int .i64 0, .slice none 0 0])) (grownCap w n 0 68 - n)) 68)) := fun ty => by
      have h := Lib.run_append_grow_zeros w 29 3 ty 68 i0 _ .i64 .i64 Try.underlying29 Try.underlying3 hi hz0 none 0 0 [] hold n d4 (by rw [hz1]; decide) (by omega) (by omega) (by rw [hz2]; omega) (by rw [hz2]; exact growslice_fits (by omega) (by omega))
      simpa using h
    have hGn : n ≤ grownCap w n 0 68 := grownCap_ge w _ _ _
    have hGm := grownCap_le_maxLen w n 0 68 (by unfold maxLen; omega)
    obtain ⟨G, hG⟩ : ∃ G, G = grownCap w n 0 68 := ⟨_, rfl⟩
    rw [← hG] at hrz hGn hGm
    clear hG hold
    have hG63 : G ≤ 9223372036854775807 := by unfold maxLen at hGm; omega
    go_enter Try.func126, Try.ntmps126
    go_wp2_with (at_builtin; refine Lib.wpList_append_run _ rfl _ _ _ _ rfl _ _ rfl rfl _ _ (hrz _) ?_)
    go_ret
    refine ⟨_, rfl, ⟨rfl, .inr ⟨w.heap.size, G, _, rfl, Nat.le_refl _, hp1 w.drew _, Nat.zero_le _, hGm, ?_, rfl⟩⟩, (Below.refl _ _).drew.al _⟩
    simp [size_zeroCells]
    omega

theorem cellsP_app : ∀ (xs ys : List Prg) (us vs : List Value), xs.length = us.length → cellsP (xs ++ ys) (us ++ vs) = cellsP xs us ++ cellsP ys vs
  | [], _, [], _, _ => rfl
  | [], _, _ :: _, _, h => by simp at h
  | _ :: _, _, [], _, h => by simp at h
  | x :: xs, ys, u :: us, vs, h => by
    simp only [List.length_cons, Nat.add_right_cancel_iff] at h
    simp only [List.cons_append, cellsP, cellsP_app xs ys us vs h]

theorem cellsL_app : ∀ (xs ys : List Lnk) (us vs : List Value), xs.length = us.length → cellsL (xs ++ ys) (us ++ vs) = cellsL xs us ++ cellsL ys vs
  | [], _, [], _, _ => rfl
  | [], _, _ :: _, _, h => by simp at h
  | _ :: _, _, [], _, h => by simp at h
  | x :: xs, ys, u :: us, vs, h => by
    simp only [List.length_cons, Nat.add_right_cancel_iff] at h
    simp only [List.cons_append, cellsL, cellsL_app xs ys us vs h]
end Go.Proofs.Ytkeoefbkeommhaa
