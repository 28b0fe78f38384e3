/-
  A range over a text: a sign of several bytes holds no comma. No statement of the seat is proved here.
-/
import Derived.Test.YthlpgpgfdfnofabDoorCut4
import Derived.Laws.RangeAny
import Derived.Lib.OthersKept
import Derived.WalkSmall
namespace Go.Proofs.YthlpgpgfdfnofabDoor
open Go.RowKit

theorem get_bang (s : ByteArray) (j : Nat) (h : j < s.size) : s.get! j = s[j] := by
  simp [ByteArray.get!, getElem!_pos, h]
  rfl
theorem wide_tail (s : ByteArray) (pos : Nat) (h : pos < s.size) (ha : 128 ≤ s[pos].toNat) : ∀ j, pos < j → j < pos + (Utf8.decode s pos).2 → ∃ hj : j < s.size, 128 ≤ s[j].toNat := by
  have key : ∀ k, (decide (pos + k < s.size) && ((s.get! (pos + k)).toNat / 64 == 2)) = true → ∃ hj : pos + k < s.size, 128 ≤ s[pos + k].toNat := by
    intro k hk
    simp only [Bool.and_eq_true, decide_eq_true_eq, beq_iff_eq] at hk
    refine ⟨hk.1, ?_⟩
    have := hk.2
    rw [get_bang s _ hk.1] at this
    omega
  intro j h1 h2
  have e0 : s.get! (pos + 0) = s[pos] := by rw [Nat.add_zero]; exact get_bang s pos h
  have hn : ¬ s[pos].toNat < 128 := by omega
  simp only [Utf8.decode, e0, hn, if_false] at h2
  split at h2
  · rename_i hc
    simp only [Bool.and_eq_true] at hc
    have k1 := key 1 (by simpa using hc.2)
    split at h2
    · obtain rfl : j = pos + 1 := by simp at h2; omega
      exact k1
    · simp at h2; omega
  · split at h2
    · rename_i hc
      simp only [Bool.and_eq_true] at hc
      have k1 := key 1 (by simpa using hc.1.2)
      have k2 := key 2 (by simpa using hc.2)
      split at h2
      · have : j = pos + 1 ∨ j = pos + 2 := by simp at h2; omega
        rcases this with rfl | rfl
        · exact k1
        · exact k2
      · simp at h2; omega
    · split at h2
      · rename_i hc
        simp only [Bool.and_eq_true] at hc
        have k1 := key 1 (by simpa using hc.1.1.2)
        have k2 := key 2 (by simpa using hc.1.2)
        have k3 := key 3 (by simpa using hc.2)
        split at h2
        · have : j = pos + 1 ∨ j = pos + 2 ∨ j = pos + 3 := by simp at h2; omega
          rcases this with rfl | rfl | rfl
          · exact k1
          · exact k2
          · exact k3
        · simp at h2; omega
      · simp at h2; omega

/-- Bytes without a comma leave the cut's words as they were. -/
theorem cut_run (l m : List UInt8) (h : ∀ c ∈ m, c ≠ 44) : cut (l ++ m) = ((cut l).1, (cut l).2 ++ m) := by
  induction hm : m.length generalizing m with
  | zero => rw [List.eq_nil_of_length_eq_zero hm]; simp
  | succ n ih =>
    rcases List.eq_nil_or_concat m with e | ⟨m', c, e⟩
    · rw [e] at hm; simp at hm
    · rw [List.concat_eq_append] at e
      subst e
      have hi := ih m' (fun c hc => h c (by simp [hc])) (by simp at hm; omega)
      rw [← List.append_assoc, cut_other _ (h c (by simp)), hi]
      simp

/-- The stretch of a sign that is no comma. -/
theorem take_run (s : ByteArray) (pos d : Nat) (h : ∀ j, pos ≤ j → j < pos + d → ∃ hj : j < s.size, s[j] ≠ 44) :
    cut (s.data.toList.take (pos + d)) = ((cut (s.data.toList.take pos)).1, (cut (s.data.toList.take pos)).2 ++ (s.data.toList.drop pos).take d) := by
  rw [List.take_add, cut_run]
  intro c hc
  obtain ⟨i, hi, rfl⟩ := List.getElem_of_mem hc
  rw [List.getElem_take, List.getElem_drop]
  have hid : i < d := by
    have : i < ((s.data.toList.drop pos).take d).length := hi
    rw [List.length_take] at this; omega
  obtain ⟨hj, hne⟩ := h (pos + i) (by omega) (by omega)
  exact hne
theorem fr_run (s : ByteArray) (pos d : Nat) (hd : pos + d ≤ s.size) (h : ∀ j, pos ≤ j → j < pos + d → ∃ hj : j < s.size, s[j] ≠ 44) :
    fr s.data.toList (pos + d) = fr s.data.toList pos := by
  have hl : ((s.data.toList.drop pos).take d).length = d := by rw [List.length_take, List.length_drop, s_len]; omega
  have hb := cut_bound (s.data.toList.take pos)
  have hb2 : (s.data.toList.take pos).length = pos := by rw [List.length_take, s_len]; omega
  unfold fr
  rw [take_run s pos d h]
  simp only [List.length_append, hl]
  omega
/-- What a sign at 'pos' is: a comma, or a run without one. -/
theorem sign_at (s : ByteArray) (pos : Nat) (h : pos < s.size) :
    (s[pos] = 44 ∧ (Utf8.decode s pos).1 = 44 ∧ (Utf8.decode s pos).2 = 1) ∨
    ((Utf8.decode s pos).1 ≠ 44 ∧ 1 ≤ (Utf8.decode s pos).2 ∧ pos + (Utf8.decode s pos).2 ≤ s.size ∧ ∀ j, pos ≤ j → j < pos + (Utf8.decode s pos).2 → ∃ hj : j < s.size, s[j] ≠ 44) := by
  by_cases ha : s[pos].toNat < 128
  · rw [decode_ascii s pos h ha]
    by_cases hc : s[pos] = 44
    · left; exact ⟨hc, by rw [hc]; rfl, rfl⟩
    · right
      refine ⟨fun e => hc (UInt8.toNat_inj.1 (by rw [show s[pos].toNat = 44 from e]; rfl)), Nat.le_refl _, h, fun j h1 h2 => ?_⟩
      obtain rfl : j = pos := by simp at h2; omega
      exact ⟨h, hc⟩
  · right
    have hh := decode_high s pos h (by omega)
    have hw := wide_tail s pos h (by omega)
    have big : ∀ {c : UInt8}, 128 ≤ c.toNat → c ≠ 44 := fun hc e => by rw [e] at hc; exact absurd hc (by decide)
    refine ⟨by omega, hh.2, ?_, fun j h1 h2 => ?_⟩
    · by_cases h1 : (Utf8.decode s pos).2 = 1
      · omega
      · obtain ⟨hj, _⟩ := hw (pos + (Utf8.decode s pos).2 - 1) (by omega) (by omega)
        omega
    · rcases Nat.eq_or_lt_of_le h1 with rfl | hlt
      · exact ⟨h, big (by omega)⟩
      · obtain ⟨hj, hb⟩ := hw j hlt h2
        exact ⟨hj, big hb⟩

end Go.Proofs.YthlpgpgfdfnofabDoor
