/-
  Sums and steps undo each other; what is split is alternated back; what is routed is counted: of plain lists. No statement of the seat is proved here.
-/
import Derived.Test.YthlpgpgfdfnofaaWrappedLaw
import Derived.Test.YthlpgpgfdfnofaaSums
import Derived.Test.YthlpgpgfdfnofaaSplit
import Derived.Test.YthlpgpgfdfnofaaAlt
import Derived.Test.YthlpgpgfdfnofaaRoute
import Derived.Test.YthlpgpgfdfnofaaHold
namespace Go.Proofs.Ythlpgpgfdfnofaa
open Go.RowKit

theorem pick_get : ∀ s : List Int, (∀ j, (pick true s)[j]? = s[2 * j]?) ∧ (∀ j, (pick false s)[j]? = s[2 * j + 1]?)
  | [] => by simp [pick]
  | x :: xs => by
    have h := pick_get xs
    constructor
    · intro j
      cases j with
      | zero => simp [pick]
      | succ j =>
        have := h.2 j
        simp only [pick, if_true, Bool.not_true, List.getElem?_cons_succ]
        rw [this, show 2 * (j + 1) = (2 * j + 1) + 1 by omega, List.getElem?_cons_succ]
    · intro j
      have := h.1 j
      simp only [pick, Bool.not_false, List.getElem?_cons_succ]
      simpa using this
theorem frm_pick (s : List Int) (i : Nat) : (frm (pick true s) (pick false s) i)[i / 2]? = s[i]? := by
  by_cases h : i % 2 = 1
  · rw [frm_odd h, (pick_get s).2, show 2 * (i / 2) + 1 = i by omega]
  · rw [frm_even h, (pick_get s).1, show 2 * (i / 2) = i by omega]
theorem frm_lt (s : List Int) (i : Nat) : i / 2 < (frm (pick true s) (pick false s) i).length ↔ i < s.length := by
  have h := frm_pick s i
  constructor
  · intro k
    rw [List.getElem?_eq_getElem k] at h
    exact (List.getElem?_eq_some_iff.1 h.symm).1
  · intro k
    rw [List.getElem?_eq_getElem k] at h
    exact (List.getElem?_eq_some_iff.1 h).1
theorem altN_pick (s : List Int) : ∀ f i, i ≤ s.length → s.length ≤ f + i → altN (pick true s) (pick false s) f i = s.length
  | 0, i, h, k => by simp [altN]; omega
  | f + 1, i, h, k => by
    unfold altN
    by_cases hi : i < s.length
    · rw [if_pos ((frm_lt s i).2 hi)]
      exact altN_pick s f (i + 1) (by omega) (by omega)
    · rw [if_neg (fun e => hi ((frm_lt s i).1 e))]
      omega
theorem pick_mem : ∀ (b : Bool) (s : List Int), ∀ x ∈ pick b s, x ∈ s
  | _, [], x, h => by simp [pick] at h
  | b, y :: s, x, h => by
    unfold pick at h
    cases b
    · simp at h
      exact List.mem_cons_of_mem _ (pick_mem _ s x h)
    · simp at h
      rcases h with h | h
      · rw [h]; exact List.mem_cons_self
      · exact List.mem_cons_of_mem _ (pick_mem _ s x h)
theorem isS_pick {b : Bool} {s : List Int} (h : isS s = true) : isS (pick b s) = true :=
  isS_mk (by have := isS_len h; have := pick_len b s; omega) (fun x hx => isS_all h x (pick_mem b s x hx))
theorem split_alt {s : List Int} (h : isS s = true) : alternateStreamsR0 (pick true s) (pick false s) = s := by
  have hl := isS_len h
  rw [alt3 (isS_pick h) (isS_pick h)]
  have e : altAt (pick true s) (pick false s) 0 = s.length := altN_pick s _ 0 (by omega) (by omega)
  rw [e]
  apply List.ext_getElem?
  intro j
  unfold altL
  by_cases hj : j < s.length
  · simp only [List.getElem?_map, List.getElem?_range hj, Option.map_some, List.getD_eq_getElem?_getD, frm_pick]
    rw [List.getElem?_eq_getElem hj]
    rfl
  · simp [hj]

theorem getD_tok {s : List Int} {j : Nat} (h : isS s = true) (hj : j < s.length) : -999999 ≤ s.getD j 0 ∧ s.getD j 0 ≤ 999999 := tok_in h hj rfl
theorem range_getD (s : List Int) : (List.range s.length).map (fun j => s.getD j 0) = s := by
  apply List.ext_getElem?
  intro j
  by_cases hj : j < s.length
  · simp [hj, List.getD]
  · simp [hj]
theorem isS_sums {s : List Int} (h : isS s = true) : isS (sumsL s s.length) = true := by
  refine isS_mk (by rw [sumsL_len]; exact isS_len h) (fun x hx => ?_)
  unfold sumsL at hx
  obtain ⟨j, _, rfl⟩ := List.mem_map.1 hx
  exact isTok_yes (acc_bd s (j + 1)).1 (acc_bd s (j + 1)).2
theorem isS_steps {s : List Int} (h : isS s = true) : isS (stepsL s s.length) = true := by
  refine isS_mk (by rw [stepsL_len]; exact isS_len h) (fun x hx => ?_)
  unfold stepsL at hx
  obtain ⟨j, _, rfl⟩ := List.mem_map.1 hx
  exact isTok_yes (wrapT_bd _).1 (wrapT_bd _).2
theorem sums_getD {s : List Int} {n j : Nat} (h : j < n) : (sumsL s n).getD j 0 = acc s (j + 1) := by simp [sumsL, List.getD, h]
theorem steps_getD {s : List Int} {n j : Nat} (h : j < n) : (stepsL s n).getD j 0 = wrapT (s.getD j 0 - prev s j) := by simp [stepsL, List.getD, h]
theorem prev_sums {s : List Int} {n j : Nat} (h : j ≤ n) : prev (sumsL s n) j = acc s j := by
  unfold prev
  split
  · rename_i e; rw [e, acc_zero]
  · rename_i e
    rw [sums_getD (by omega), show j - 1 + 1 = j by omega]
theorem steps_sums {s : List Int} (h : isS s = true) : stepsOfR0 (sumsOfR0 s) = s := by
  rw [sums2 h, steps2 (isS_sums h), sumsL_len]
  conv => rhs; rw [← range_getD s]
  unfold stepsL
  apply List.map_congr_left
  intro j hj
  have hj := List.mem_range.1 hj
  rw [sums_getD hj, prev_sums (by omega), acc_succ hj rfl]
  have ht := getD_tok h hj
  have := wrapT_mod (acc s j + s.getD j 0)
  exact wrapT_eq ht.1 ht.2 (by omega)
theorem acc_steps {s : List Int} (h : isS s = true) : ∀ k, k ≤ s.length → acc (stepsL s s.length) k = prev s k
  | 0, _ => by rw [acc_zero, prev_zero]
  | k + 1, hk => by
    rw [acc_succ (by rw [stepsL_len]; omega) rfl, steps_getD (by omega), acc_steps h k (by omega), prev_succ rfl]
    have ht := getD_tok h (show k < s.length by omega)
    have := wrapT_mod (s.getD k 0 - prev s k)
    exact wrapT_eq ht.1 ht.2 (by omega)
theorem sums_steps {s : List Int} (h : isS s = true) : sumsOfR0 (stepsOfR0 s) = s := by
  rw [steps2 h, sums2 (isS_steps h), stepsL_len]
  conv => rhs; rw [← range_getD s]
  unfold sumsL
  apply List.map_congr_left
  intro j hj
  have hj := List.mem_range.1 hj
  rw [acc_steps h _ (by omega), prev_succ rfl]
theorem rt_both (m : Int) (s : List Int) : (rt true m s).length + (rt false m s).length = s.length := by
  induction s with
  | nil => simp [rt]
  | cons x s ih =>
    unfold rt at *
    cases hx : isMul m x <;> simp [hx] at * <;> omega
theorem rt_mul {m : Int} {s : List Int} {b : Bool} : ∀ x ∈ rt b m s, isMul m x = b := by
  intro x hx
  have := (List.mem_filter.1 hx).2
  simpa using this
theorem rt_tok {m : Int} {s : List Int} {b : Bool} (h : isS s = true) : ∀ x ∈ rt b m s, -999999 ≤ x ∧ x ≤ 999999 := by
  intro x hx
  exact isTok_bd (isS_all h x (List.mem_filter.1 hx).1)

end Go.Proofs.Ythlpgpgfdfnofaa
