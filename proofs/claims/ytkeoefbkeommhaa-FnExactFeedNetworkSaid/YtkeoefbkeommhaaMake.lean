/-
  What the two functions that copy a slice of ints leave. No statement of the seat is proved here.
-/
import Derived.Test.YtkeoefbkeommhaaOwn
namespace Go.Proofs.Ytkeoefbkeommhaa
open Go.RowKit

set_option maxHeartbeats 400000 in
theorem copyOf_any (v : Value) (xs : List Int) (w : World) (h : Sl w v xs) (hs : xs.length ≤ 4000000) :
    Calls Try.prog 119 #[v] w fun e w' => ∃ v', e = .returned v' ∧ Own w.heap.size w' v' xs ∧ Below w.heap.size w w' := by
  have HS := Lib.hid h
  obtain ⟨a, cap, rfl, hl, hm, hn, hc⟩ := h
  clear hm hn hl hc
  obtain ⟨i0, hi, hz0, hz1, hz2⟩ := info_parts info
  go_enter Try.func119, Try.ntmps119
  go_wp2_with (at_make; refine wpList_make_full _ rfl _ _ 26 rfl w.heap.size 3 i0 (.int .i64 0) 1 Try.underlying26 hi hz0 hz1 _ _ _ _ xs.length rfl rfl rfl rfl ?b2 ?b3 ?b4 ?_)
  case b2 => rw [hz2]; omega
  case b3 => unfold maxLen; omega
  case b4 => exact Nat.le_refl _
  intro w1 hown hgrow
  have hb := (Below.refl w.heap.size w).grown hgrow (Nat.le_refl _) (by simp)
  have HO := Lib.hid (own_heap hown)
  have HZ := Lib.hid hown.1
  clear hgrow hi hz0 hz1 hz2 hown
  obtain ⟨Z, hZ⟩ : ∃ Z, Z = (madeCells #[Value.int IntKind.i64 0] xs.length).toList := ⟨_, rfl⟩
  obtain ⟨C, hC⟩ : ∃ C, C = vals xs := ⟨_, rfl⟩
  rw [← hZ] at HO HZ
  have HC := Lib.hid hC
  clear hZ hC
  go_wp2_with (with_reducible refine wpList_copy_splice rfl (.tmp 7) (.tmp 8) 26 26 rfl 3 Try.underlying26 size1 (some ⟨w.heap.size, 0, none⟩) a xs.length xs.length xs.length cap rfl rfl w.heap.size 0 Z 3 HO.out C ?c1 ?c2 ?c3 ?c4 w.heap.size w hb (Nat.le_refl _) ?_)
  case c1 => rw [HC.out, vals_len]; exact (Nat.min_self _).symm
  case c2 =>
    intro hp
    have H := HS.out.below hb
    cases a with
    | none =>
      obtain ⟨a', c, hv, h1, h2, h3, hc⟩ := HS.out
      simp only [Value.slice.injEq, true_and] at hv
      obtain ⟨rfl, rfl⟩ := hv
      have := h3 rfl
      rw [HC.out, vals_len] at hp
      omega
    | some ad => first | exact ⟨ad, rfl, by rw [HC.out]; exact H.src.2⟩ | exact ⟨rfl, ad, rfl, by rw [HC.out]; exact H.src.2⟩
  case c3 => have := HZ.out; rw [HC.out, vals_len]; omega
  case c4 => rw [HC.out]; exact vals_one xs
  intro w2 HG hb2
  go_wp2_with fail
  go_ret
  refine ⟨_, rfl, ?_, hb2⟩
  have := HG.out
  rw [splice_all (by rw [HC.out, vals_len]; have := HZ.out; omega), HC.out] at this
  exact heap_own this (vals_len xs) (Nat.le_refl _) (by unfold maxLen; omega)

set_option maxHeartbeats 400000 in
theorem l1copy_any (v : Value) (xs : List Int) (w : World) (h : Sl w v xs) (hs : xs.length ≤ 4000000) :
    Calls Try.prog 124 #[v] w fun e w' => ∃ v', e = .returned v' ∧ Own w.heap.size w' v' xs ∧ Below w.heap.size w w' := by
  have HS := Lib.hid h
  obtain ⟨a, cap, rfl, hl, hm, hn, hc⟩ := h
  clear hm hc
  obtain ⟨i0, hi, hz0, hz1, hz2⟩ := info_parts info
  have hb := (Below.refl w.heap.size w).alloc (Nat.le_refl _) (.cells #[] 3)
  have h0 := lit0 w
  cases a with
  | none =>
    obtain rfl : cap = 0 := hn rfl
    obtain rfl : xs = [] := List.eq_nil_of_length_eq_zero (by omega)
    clear hn hl
    go_enter Try.func124, Try.ntmps124
    go_wp2_with (at_builtin; refine wpList_append_own_none rfl _ _ 26 rfl w.heap.size 3 i0 1 Try.underlying26 hi _ _ _ rfl h0 rfl ?_)
    go_ret
    exact ⟨_, rfl, h0, hb⟩
  | some ad =>
    have hsrc := Lib.hid (HS.out.below (hb.mono (Nat.le_refl _))).src.2
    clear hn hl
    go_enter Try.func124, Try.ntmps124
    go_wp2_with (at_builtin; refine wpList_append_own _ rfl _ _ 26 rfl w.heap.size 3 i0 (.int .i64 0) 1 8 Try.underlying26 hi hz0 hz1 hz2 rfl (by decide) _ _ _ rfl h0 ad xs.length cap (vals xs) rfl ?c0 hsrc.out (vals_one xs) ?c3 ?c4 ?c5 ?_)
    case c0 => rw [vals_len, Nat.mul_one]
    case c3 => unfold maxLen; omega
    case c4 => omega
    case c5 => simp
    intro v' w1 hown hgrow _
    have HO := Lib.hid hown
    have hb2 := hb.grown hgrow (by simp) (fun k e => by simp [Value.ownBlock] at e; omega)
    clear hown hgrow hi hz0 hz1 hz2
    go_wp2_with fail
    go_ret
    exact ⟨_, rfl, HO.out, hb2⟩

end Go.Proofs.Ytkeoefbkeommhaa
