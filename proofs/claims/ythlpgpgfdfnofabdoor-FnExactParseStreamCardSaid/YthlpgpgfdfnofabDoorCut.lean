/-
  A text cut at its commas: of plain lists; which words the two readings agree on. No statement of the seat is proved here.
-/
import Derived.Test.YthlpgpgfdfnofabDoorParse
import Derived.Test.YthlpgpgfdfnofabDoorRead3
import Derived.Test.YthlpgpgfdfnofabDoorStream
namespace Go.Proofs.YthlpgpgfdfnofabDoor
open Go.RowKit
open Go.Lib (decDigits itoa)

def cutStep (p : List (List UInt8) × List UInt8) (c : UInt8) : List (List UInt8) × List UInt8 := if c = 44 then (p.1 ++ [p.2], []) else (p.1, p.2 ++ [c])
def cut (l : List UInt8) : List (List UInt8) × List UInt8 := l.foldl cutStep ([], [])
def words (l : List UInt8) : List (List UInt8) := (cut l).1 ++ [(cut l).2]
theorem cut_snoc (l : List UInt8) (c : UInt8) : cut (l ++ [c]) = cutStep (cut l) c := by simp [cut]
theorem cut_comma (l : List UInt8) : cut (l ++ [44]) = (words l, []) := by rw [cut_snoc]; rfl
theorem cut_other (l : List UInt8) {c : UInt8} (h : c ≠ 44) : cut (l ++ [c]) = ((cut l).1, (cut l).2 ++ [c]) := by rw [cut_snoc]; exact if_neg h
theorem cut_ext (l m : List UInt8) : ∃ r, (cut (l ++ m)).1 = (cut l).1 ++ r := by
  induction hm : m.length generalizing m with
  | zero => rw [List.eq_nil_of_length_eq_zero hm]; exact ⟨[], by simp⟩
  | succ n ih =>
    rcases List.eq_nil_or_concat m with e | ⟨m', c, e⟩
    · rw [e] at hm; simp at hm
    · rw [List.concat_eq_append] at e
      subst e
      obtain ⟨r, hr⟩ := ih m' (by simp at hm; omega)
      rw [← List.append_assoc]
      by_cases hc : c = 44
      · subst hc
        rw [cut_comma]
        exact ⟨r ++ [(cut (l ++ m')).2], by unfold words; rw [hr]; simp⟩
      · rw [cut_other _ hc]; exact ⟨r, hr⟩
theorem cut_bound (l : List UInt8) : (cut l).1.length + (cut l).2.length ≤ l.length := by
  induction hm : l.length generalizing l with
  | zero => rw [List.eq_nil_of_length_eq_zero hm]; simp [cut]
  | succ n ih =>
    rcases List.eq_nil_or_concat l with e | ⟨m, c, e⟩
    · rw [e] at hm; simp at hm
    · rw [List.concat_eq_append] at e
      subst e
      have := ih m (by simp at hm; omega)
      by_cases hc : c = 44
      · subst hc
        rw [cut_comma]; simp [words]; omega
      · rw [cut_other _ hc]; simp; omega
theorem cut_suffix (l : List UInt8) : (cut l).2 = l.drop (l.length - (cut l).2.length) := by
  induction hm : l.length generalizing l with
  | zero => rw [List.eq_nil_of_length_eq_zero hm]; simp [cut]
  | succ n ih =>
    rcases List.eq_nil_or_concat l with e | ⟨m, c, e⟩
    · rw [e] at hm; simp at hm
    · rw [List.concat_eq_append] at e
      subst e
      have hml : m.length = n := by simp at hm; omega
      have := ih m hml
      have hb := cut_bound m
      by_cases hc : c = 44
      · subst hc
        rw [cut_comma]; simp; omega
      · rw [cut_other _ hc]
        simp only [List.length_append, List.length_singleton]
        rw [show n + 1 - ((cut m).2.length + 1) = n - (cut m).2.length by omega, List.drop_append_of_le_length (by omega), ← this]

/-- Where the word under way begins. -/
def fr (l : List UInt8) (k : Nat) : Nat := k - (cut (l.take k)).2.length
theorem fr_le (l : List UInt8) (k : Nat) : fr l k ≤ k := Nat.sub_le _ _
theorem fr_comma {l : List UInt8} {k : Nat} {c : UInt8} (h : l.take (k + 1) = l.take k ++ [c]) (hc : c = 44) : fr l (k + 1) = k + 1 := by
  subst hc; unfold fr; rw [h, cut_comma]; simp
theorem fr_other {l : List UInt8} {k : Nat} {c : UInt8} (h : l.take (k + 1) = l.take k ++ [c]) (hc : c ≠ 44) : fr l (k + 1) = fr l k := by
  unfold fr; rw [h, cut_other _ hc]; simp
theorem ext_word (s : ByteArray) (k : Nat) (hk : k ≤ s.size) : s.extract (fr s.data.toList k) k = ⟨(cut (s.data.toList.take k)).2.toArray⟩ := by
  have hl : (s.data.toList.take k).length = k := by rw [List.length_take, s_len]; omega
  have h := cut_suffix (s.data.toList.take k)
  rw [hl] at h
  apply ByteArray.ext
  apply Array.toList_inj.1
  rw [ByteArray.data_extract, Array.toList_extract]
  show _ = (cut (s.data.toList.take k)).2
  rw [h, List.extract_eq_take_drop, List.drop_take]
  rfl

/-- What both must answer: the numbers of the words, where each can be read and they are a stream. -/
def psR (l : List UInt8) : Option (List Int) := if l = [46] then some [] else match (words l).mapM rd with
  | some xs => if isS xs then some xs else none
  | none => none

theorem big64 : (9 : Nat) < 10 ^ 19 := by decide
end Go.Proofs.YthlpgpgfdfnofabDoor
