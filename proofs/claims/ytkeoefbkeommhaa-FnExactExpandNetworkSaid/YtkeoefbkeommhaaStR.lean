/-
  A state as a result: what lies in it (all rows of tokens in blocks of their own), its marks, and the marks read. No statement of the seat is proved here.
-/
import Derived.Test.YtkeoefbkeommhaaStC
namespace Go.Proofs.Ytkeoefbkeommhaa
open Go.RowKit

theorem Fam.rot {lo : Nat} {w : World} {A B : List Value} {X Y : List (List Int)} (h : Fam lo w (A ++ B) (X ++ Y)) (hl : A.length = X.length) : Fam lo w (B ++ A) (Y ++ X) := by
  have hlen := h.len
  simp only [List.length_append] at hlen
  have key : ∀ (i : Nat) (u : Value), (B ++ A)[i]? = some u → ∃ j, (A ++ B)[j]? = some u ∧ (∀ xs : List Int, (Y ++ X)[i]? = some xs → (X ++ Y)[j]? = some xs) ∧ j = if i < B.length then A.length + i else i - B.length := by
    intro i u hu
    by_cases q : i < B.length
    · rw [List.getElem?_append_left q] at hu
      refine ⟨A.length + i, by rw [List.getElem?_append_right (by omega), show A.length + i - A.length = i by omega]; exact hu, fun xs hx => ?_, by rw [if_pos q]⟩
      rw [List.getElem?_append_left (by omega)] at hx
      rw [List.getElem?_append_right (by omega), show A.length + i - X.length = i by omega]
      exact hx
    · have hi := (List.getElem?_eq_some_iff.1 hu).1
      rw [List.length_append] at hi
      rw [List.getElem?_append_right (by omega)] at hu
      refine ⟨i - B.length, by rw [List.getElem?_append_left (by omega)]; exact hu, fun xs hx => ?_, by rw [if_neg q]⟩
      rw [List.getElem?_append_right (by omega)] at hx
      rw [List.getElem?_append_left (by omega), show i - B.length = i - Y.length by omega]
      exact hx
  refine ⟨by simp only [List.length_append]; omega, fun i u xs hu hx => ?_, fun i j u v hu hv hij => ?_⟩
  · obtain ⟨j, h1, h2, _⟩ := key i u hu
    exact h.own j u xs h1 (h2 xs hx)
  · obtain ⟨a, h1, _, ea⟩ := key i u hu
    obtain ⟨b, h3, _, eb⟩ := key j v hv
    refine h.apart a b u v h1 h3 ?_
    have hi := (List.getElem?_eq_some_iff.1 hu).1
    have hj := (List.getElem?_eq_some_iff.1 hv).1
    rw [List.length_append] at hi hj
    split at ea <;> split at eb <;> omega
/-- Two families, the one in blocks before the other's. -/
theorem Fam.app {lo m lo2 : Nat} {w : World} {A B : List Value} {X Y : List (List Int)} (h : Fam lo w A X) (k : Fam m w B Y) (hA : ∀ x ∈ A, ∀ q, x.ownBlock = some q → q < m) (h1 : lo2 ≤ lo) (h2 : lo2 ≤ m) : Fam lo2 w (A ++ B) (X ++ Y) := by
  have hl := h.len
  have kl := k.len
  have ap : ∀ (i j : Nat) (u v : Value), A[i]? = some u → B[j]? = some v → Apart u v := by
    intro i j u v hu hv
    cases e : u.ownBlock with
    | none => exact .inl e
    | some q =>
      right
      rw [e]
      intro e2
      have a1 := hA u (List.mem_of_getElem? hu) q e
      have a2 := ((k.get hv).lt q e2.symm).1
      omega
  refine ⟨by simp only [List.length_append]; omega, fun i u xs hu hx => ?_, fun i j u v hu hv hij => ?_⟩
  · by_cases q : i < A.length
    · rw [List.getElem?_append_left q] at hu
      rw [List.getElem?_append_left (by omega)] at hx
      exact (h.own i u xs hu hx).mono h1
    · rw [List.getElem?_append_right (by omega)] at hu
      rw [List.getElem?_append_right (by omega), ← hl] at hx
      exact (k.own _ u xs hu hx).mono h2
  · by_cases q : i < A.length
    · rw [List.getElem?_append_left q] at hu
      by_cases q2 : j < A.length
      · rw [List.getElem?_append_left q2] at hv
        exact h.apart i j u v hu hv hij
      · rw [List.getElem?_append_right (by omega)] at hv
        exact ap _ _ u v hu hv
    · rw [List.getElem?_append_right (by omega)] at hu
      by_cases q2 : j < A.length
      · rw [List.getElem?_append_left q2] at hv
        exact (ap _ _ v u hv hu).symm
      · rw [List.getElem?_append_right (by omega)] at hv
        exact k.apart _ _ u v hu hv (by omega)
theorem Fam.left {lo : Nat} {w : World} {A B : List Value} {X Y : List (List Int)} (h : Fam lo w (A ++ B) (X ++ Y)) (hl : A.length = X.length) : Fam lo w A X := by
  refine ⟨hl, fun i u xs hu hx => ?_, fun i j u v hu hv hij => ?_⟩
  · exact h.own i u xs (by rw [List.getElem?_append_left (List.getElem?_eq_some_iff.1 hu).1]; exact hu) (by rw [List.getElem?_append_left (List.getElem?_eq_some_iff.1 hx).1]; exact hx)
  · exact h.apart i j u v (by rw [List.getElem?_append_left (List.getElem?_eq_some_iff.1 hu).1]; exact hu) (by rw [List.getElem?_append_left (List.getElem?_eq_some_iff.1 hv).1]; exact hv) hij
theorem Fam.out {lo hi l2 h2 : Nat} {w w' : World} {us : List Value} {xss : List (List Int)} (hF : Fam lo w us xss) (h3 : ∀ x ∈ us, ∀ q, x.ownBlock = some q → q < hi) (ho : Out l2 h2 w w') (hd : hi ≤ l2 ∨ h2 ≤ lo) : Fam lo w' us xss :=
  ⟨hF.len, fun i x xs hx hxs => (hF.own i x xs hx hxs).out (h2 := hi) (h3 x (List.mem_of_getElem? hx)) ho (by omega), hF.apart⟩
theorem VR.slR {lo hi : Nat} {w : World} {v : Value} {us : List Value} {xss : List (List Int)} (hv : VR lo hi w v us) (hF : Fam lo w us xss) : SlR w v xss := by
  have hl2 := hF.len
  rcases hv with ⟨rfl, rfl⟩ | ⟨B, cap, cur, rfl, a2, a3, a4, a5, a6, a7⟩
  · obtain rfl : xss = [] := List.eq_nil_of_length_eq_zero (by simpa using hl2.symm)
    exact ⟨none, 0, rfl, Nat.le_refl _, by simp, fun _ => rfl, .inl rfl⟩
  · refine ⟨_, cap, by rw [hl2], by omega, a5, (fun e => by cases e), .inr ⟨B, 0, rfl, lt_of a6, fun i xs hx => ?_⟩⟩
    have hi : i < xss.length := (List.getElem?_eq_some_iff.1 hx).1
    obtain ⟨x, hxu⟩ : ∃ x, us[i]? = some x := ⟨_, List.getElem?_eq_getElem (by omega)⟩
    refine ⟨x, ?_, (hF.own i x xs hxu hx).sl⟩
    rw [Nat.zero_add, cell_of a6 i, ← Array.getElem?_toList]
    have e : (cur.toList.take us.length)[i]? = some x := by rw [a7]; exact hxu
    rw [List.getElem?_take, if_pos (by omega)] at e
    exact e
theorem VR.mono {lo hi lo' hi' : Nat} {w : World} {v : Value} {us : List Value} (h : VR lo hi w v us) (h1 : lo' ≤ lo) (h2 : hi ≤ hi') : VR lo' hi' w v us := by
  rcases h with h | ⟨B, cap, cur, a1, a2, a3, a4⟩
  · exact .inl h
  · exact .inr ⟨B, cap, cur, a1, by omega, by omega, a4⟩

def mkSt (k : Int) (s : Stt) : Stt := ⟨mkAll stAc mkAc k s.acts, mkAll stR mkR (k + (sumA s.acts : Nat)) s.queues, mkAll stR mkR (k + (sumA s.acts : Nat) + (sumT s.queues : Nat)) s.sent, s.steps⟩

theorem famRow {lo hi j : Nat} {w w' : World} {v x : Value} {us rs : List Value} {outs rest : List (List Int)} {ys : List Int} (hv : VR lo hi w v us) (hle : us.length = outs.length) (hF : Fam lo w (us ++ rs) (outs ++ rest))
    (hx : us[j]? = some x) (hg : w.grownBy w' x.ownBlock) (ho : Own lo w' x ys) : VR lo hi w' v us ∧ Fam lo w' (us ++ rs) (outs.set j ys ++ rest) := by
  have hj := (List.getElem?_eq_some_iff.1 hx).1
  have hx2 : (us ++ rs)[j]? = some x := by rw [List.getElem?_append_left hj]; exact hx
  have hox := hF.get hx2
  refine ⟨hv.keep (fun B cur _ _ q => grown_keep q (by decide) hox hg), ?_⟩
  have F := hF.upd (w' := w') hx2 (fun y ys hy ha => hy.kept hg ha) ho (.inl rfl)
  rw [List.set_append, if_pos hj, List.set_append, if_pos (by omega)] at F
  rwa [show us.set j x = us from by
    apply List.ext_getElem?
    intro i
    rw [List.getElem?_set]
    by_cases e : j = i
    · rw [if_pos e, if_pos hj, ← e, hx]
    · rw [if_neg e]] at F
end Go.Proofs.Ytkeoefbkeommhaa
