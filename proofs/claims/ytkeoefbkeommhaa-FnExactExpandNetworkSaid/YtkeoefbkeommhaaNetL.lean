/-
  Indices in an order; links renumbered by a closure. No statement of the seat is proved here.
-/
import Derived.Test.YtkeoefbkeommhaaNetF
import Derived.Test.YtkeoefbkeommhaaCaps
namespace Go.Proofs.Ytkeoefbkeommhaa
open Go.RowKit

/-- Where it is in an order, or -1. -/
def ixI (xs : List Int) (x : Int) : Int := if x ∈ xs then ((xs.idxOf x : Nat) : Int) else -1
theorem ixI_hit {xs : List Int} {k : Nat} {x : Int} (hx : xs[k]? = some x) (hn : x ∉ xs.take k) : ixI xs x = k := by
  have hk := (List.getElem?_eq_some_iff.1 hx).1
  unfold ixI
  rw [if_pos (List.mem_of_getElem? hx)]
  conv => lhs; rw [← List.take_append_drop k xs, List.idxOf_append, if_neg hn, List.drop_eq_getElem_cons hk, (List.getElem?_eq_some_iff.1 hx).2, List.idxOf_cons_self]
  simp
  omega
theorem ixI_none {xs : List Int} {x : Int} (hn : x ∉ xs) : ixI xs x = -1 := if_neg hn
theorem ixI_pos {xs : List Int} {x : Int} : decide (x ∈ xs) = decide (0 ≤ ixI xs x) := by
  unfold ixI
  by_cases h : x ∈ xs
  · rw [if_pos h]; simp [h]
  · rw [if_neg h]; simp [h]
theorem ixI_wf {xs : List Int} {x : Int} (h : xs.length ≤ 9223372036854775807) : -1 ≤ ixI xs x ∧ ixI xs x ≤ 9223372036854775807 := by
  unfold ixI
  by_cases hm : x ∈ xs
  · rw [if_pos hm]; have := List.idxOf_le_length (a := x) (l := xs); omega
  · rw [if_neg hm]; omega
theorem notin_stepI {xs : List Int} {k : Nat} {x y : Int} (hx : xs[k]? = some y) (h : y ≠ x) (hn : x ∉ xs.take k) : x ∉ xs.take (k + 1) := by
  have hk := (List.getElem?_eq_some_iff.1 hx).1
  rw [List.take_succ_eq_append_getElem hk, (List.getElem?_eq_some_iff.1 hx).2]
  simp only [List.mem_append, List.mem_singleton]
  rintro (q | q)
  · exact hn q
  · exact h q.symm

set_option maxRecDepth 100000 in
set_option maxHeartbeats 4000000 in
theorem iixI_any (v : Value) (xs : List Int) (x : Int) (w : World) (h : Sl w v xs) :
    Calls Try.prog 142 #[v, .int .i64 x] w fun e w' => e = .returned (.int .i64 (ixI xs x)) ∧ w = w' := by
  have HV := Lib.hid h
  have hll := h.len
  obtain ⟨a, cap, rfl⟩ := h.shape
  clear h
  obtain ⟨n, hn⟩ : ∃ n, n = xs.length := ⟨_, rfl⟩
  obtain ⟨r, hr⟩ : ∃ r, r = ixI xs x := ⟨_, rfl⟩
  rw [← hr]
  rw [← hn] at hll HV ⊢
  have HN := Lib.hid hn
  have HR := Lib.hid hr
  clear hn hr
  go_enter Try.func142, Try.ntmps142
  go_wp2_with fail
  go_loopw [8] (fun i wr => ∃ k : Nat, k ≤ n ∧ i = .int .i64 k ∧ Hid (x ∉ xs.take k) ∧ w = wr) (fun i _ => n - (intOf i).toNat)
  case atStart => exact ⟨0, Nat.zero_le _, rfl, Lib.hid (by simp), rfl⟩
  case round =>
    obtain ⟨k, hk, rfl, HNI, hw⟩ := hrel
    subst hw
    by_cases hlt : k < n
    · obtain ⟨y, hy⟩ : ∃ y, xs[k]? = some y := ⟨_, List.getElem?_eq_getElem (by rw [← HN.out]; exact hlt)⟩
      obtain ⟨b, off, rfl, hbl, e0⟩ := HV.out.atb hy
      have HY := Lib.hid hy
      clear hy
      by_cases hd : y = x
      · subst hd
        have HD := Lib.hid (ixI_hit HY.out HNI.out)
        go_wp2_with fail
        go_ret
        have e := HR.out.trans HD.out
        subst e
        exact ⟨rfl, rfl⟩
      · have HD := Lib.hid (notin_stepI HY.out hd HNI.out)
        have d1 : (x == y) = false := by simpa using fun e : x = y => hd e.symm
        clear hd
        go_wp2_with fail
        go_roundw
        case rel => exact ⟨k + 1, by omega, by go_num, HD, trivial⟩
        case measure => simp [intOf]; omega
    · have e := Lib.hid (HR.out.trans (ixI_none (by have := HNI.out; rwa [List.take_of_length_le (by rw [← HN.out]; omega)] at this)))
      go_wp2_with fail
      go_ret
      obtain rfl := e.out
      exact ⟨rfl, rfl⟩
def isOrdB (c : Nat) (xs : List Int) : Bool := decide (xs.length = c) && upTo (fun k => decide ((k : Int) ∈ xs)) c
/-- A link whose processes have other numbers. -/
def renL (f : Int → Int) (l : Lnk) : Lnk := ⟨if l.src = outE then l.frm else f l.frm, l.out, if l.tgt = outE then l.to else f l.to, l.inn, l.tok⟩
def renK (f : Int → Int) (ls : List Lnk) (k : Nat) : List Lnk := (ls.take k).map (renL f) ++ ls.drop k
theorem renK_at {f : Int → Int} {ls : List Lnk} {k : Nat} {x : Lnk} (hx : ls[k]? = some x) : (renK f ls k)[k]? = some x := by
  have hk := (List.getElem?_eq_some_iff.1 hx).1
  unfold renK
  rw [List.getElem?_append_right (by simp; omega)]
  simp [List.length_take, Nat.min_eq_left (Nat.le_of_lt hk), hx]
theorem renK_set {f : Int → Int} {ls : List Lnk} {k : Nat} {x : Lnk} (hx : ls[k]? = some x) : (renK f ls k).set k (renL f x) = renK f ls (k + 1) := by
  have hk := (List.getElem?_eq_some_iff.1 hx).1
  unfold renK
  rw [List.set_append_right _ _ (by simp; omega), List.take_succ_eq_append_getElem hk, (List.getElem?_eq_some_iff.1 hx).2, List.map_append, List.append_assoc]
  congr 1
  rw [List.length_map, List.length_take, Nat.min_eq_left (Nat.le_of_lt hk), Nat.sub_self, List.drop_eq_getElem_cons hk]
  rfl
theorem renK_end (f : Int → Int) (ls : List Lnk) : renK f ls ls.length = ls.map (renL f) := by
  unfold renK; rw [List.take_length, List.drop_length, List.append_nil]
theorem set_two {α : Type} (xs : List α) (k : Nat) (a b : α) : (xs.set k a).set k b = xs.set k b := by rw [List.set_set]

end Go.Proofs.Ytkeoefbkeommhaa
