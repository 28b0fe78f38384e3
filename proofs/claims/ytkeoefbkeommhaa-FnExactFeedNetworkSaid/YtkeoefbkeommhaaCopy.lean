/-
  What the law's own functions on slices of ints do: a copy, a comparison, marks written and marks read. No statement of the seat is proved here.
-/
import Derived.Test.YtkeoefbkeommhaaBase
import Derived.Deep.QuietTactic
import Derived.BigQuiet
namespace Go.Proofs.Ytkeoefbkeommhaa
open Go.RowKit

def fill (xs : List Int) (k : Nat) : List Int := xs.take k ++ List.replicate (xs.length - k) 0
theorem fill_zero (xs : List Int) : vals (fill xs 0) = List.replicate xs.length (.int .i64 0) := by simp [fill, vals]
theorem fill_len {xs : List Int} {k : Nat} (h : k ≤ xs.length) : (fill xs k).length = xs.length := by simp [fill]; omega
theorem fill_all (xs : List Int) {k : Nat} (h : ¬ k < xs.length) : fill xs k = xs := by simp [fill, List.take_of_length_le (show xs.length ≤ k by omega), show xs.length - k = 0 by omega]
theorem fill_step {xs : List Int} {k : Nat} {x : Int} (h : k < xs.length) (hx : x = xs.getD k 0) : (vals (fill xs k)).set k (.int .i64 x) = vals (fill xs (k + 1)) := by
  subst hx
  apply List.ext_getElem?
  intro j
  simp only [vals, fill, List.getElem?_set, List.length_map, List.length_append, List.length_take, List.length_replicate, List.getElem?_map, List.getElem?_append, List.getElem?_take, List.getElem?_replicate]
  by_cases e : k = j
  · subst e
    simp [h, List.getD, show k < min k xs.length + (xs.length - k) by omega]
    rw [if_pos (by omega)]
    rfl
  · by_cases hj : j < k
    · simp [e, show j < k + 1 by omega, hj, show j < min k xs.length by omega, show j < min (k + 1) xs.length by omega]
    · simp [e, show ¬ j < min k xs.length by omega, show ¬ j < min (k + 1) xs.length by omega]
      by_cases h2 : j < xs.length
      · rw [if_pos (by omega), if_pos (by omega)]
      · rw [if_neg (by omega), if_neg (by omega)]

theorem made_fill {w1 : World} {B : Nat} {v : Value} {xs : List Int} (h : w1.ownsRow B 3 1 v xs.length (madeCells #[Value.int IntKind.i64 0] xs.length).toList) : w1.ownsRow B 3 1 v xs.length (vals (fill xs 0)) := by
  rw [fill_zero, ← toList_madeCells_one]; exact h

set_option maxHeartbeats 400000 in
theorem toInt_any (v : Value) (xs : List Int) (w : World) (h : Sl w v xs) (hs : xs.length ≤ 1048576) :
    Calls Try.prog 15 #[v] w fun e w' => ∃ v', e = .returned v' ∧ Own w.heap.size w' v' xs ∧ Below w.heap.size w w' := by
  obtain ⟨a, cap, rfl, hl, hm, hn, hc⟩ := h
  clear hm hn hl
  obtain ⟨i0, hi, hz0, hz1, hz2⟩ := info_parts info
  go_enter Try.func15, Try.ntmps15
  go_wp2_with (at_make; refine wpList_make_full _ rfl _ _ 26 rfl w.heap.size 3 i0 (.int .i64 0) 1 Try.underlying26 hi hz0 hz1 _ _ _ _ xs.length rfl rfl rfl rfl ?b2 ?b3 ?b4 ?_)
  case b2 => rw [hz2]; omega
  case b3 => unfold maxLen; omega
  case b4 => exact Nat.le_refl _
  intro w1 hown hgrow
  have hb := (Below.refl w.heap.size w).grown hgrow (Nat.le_refl _) (by simp)
  have hz : w.heap.size < w1.heap.size := (hown.lt w.heap.size rfl).2
  have hown := made_fill hown
  clear hgrow hi hz0 hz1 hz2
  go_wp2_with fail
  go_loopw [4] (fun i wr => ∃ k : Nat, k ≤ xs.length ∧ i = .int .i64 k ∧ wr.ownsRow w.heap.size 3 1 (.slice (some ⟨w.heap.size, 0, none⟩) xs.length xs.length) xs.length (vals (fill xs k)) ∧ Below w.heap.size w wr) (fun i _ => xs.length - (intOf i).toNat)
  case atStart => exact ⟨0, Nat.zero_le _, rfl, hown, hb⟩
  case round =>
    clear hown hb hz
    obtain ⟨k, hk, rfl, hown, hb⟩ := hrel
    by_cases hlt : k < xs.length
    · rcases hc with rfl | ⟨b, off, rfl, hbl, hcell⟩
      · exact absurd hlt (by simp)
      · obtain ⟨x, hx⟩ : ∃ x, x = xs.getD k 0 := ⟨_, rfl⟩
        have hck := (hb.cell (p := ⟨b, off + k, none⟩) hbl).trans (hcell k hlt)
        rw [← hx] at hck
        have HX := Lib.hid hx
        have HO := Lib.hid hown
        have hfz := hown.frozenAt k
        have hck2 : wr.cell? ⟨w.heap.size, k, none⟩ = (vals (fill xs k))[k]? := hown.cellAt k (by omega)
        have hck3 : ∃ y, wr.cell? ⟨w.heap.size, k, none⟩ = some y := by
          rw [hck2, List.getElem?_eq_getElem (by simp [vals, fill_len hk, hlt])]; exact ⟨_, rfl⟩
        obtain ⟨y, hy⟩ := hck3
        clear hx hcell hown hck2
        go_wp2_with fail
        go_roundw
        case rel =>
          refine ⟨k + 1, by omega, by go_num, ?_, hb.setCell (Nat.le_refl _) _⟩
          have := (HO.out.stored k (.int .i64 x)).1
          rwa [fill_step hlt HX.out] at this
        case measure => simp [intOf]; omega
    · go_wp2_with fail
      go_ret
      refine ⟨_, rfl, ?_, hb⟩
      rw [fill_all _ hlt] at hown
      exact hown

def marks (k : Int) (n : Nat) : List Int := (List.range n).map fun (i : Nat) => k + (i : Int)
def marked (xs : List Int) (k : Int) (j : Nat) : List Int := marks k j ++ xs.drop j
theorem marks_len (k : Int) (n : Nat) : (marks k n).length = n := by simp [marks]
theorem marked_len {xs : List Int} {k : Int} {j : Nat} (h : j ≤ xs.length) : (marked xs k j).length = xs.length := by simp [marked, marks_len]; omega
theorem marked_all (xs : List Int) (k : Int) {j : Nat} (h : j = xs.length) : marked xs k j = marks k xs.length := by simp [marked, h]
theorem marked_step {xs : List Int} {k : Int} {j : Nat} (h : j < xs.length) : (vals (marked xs k j)).set j (.int .i64 (k + (j : Int))) = vals (marked xs k (j + 1)) := by
  unfold vals marked marks
  rw [List.range_succ]
  simp
  rw [List.drop_eq_getElem_cons (by simpa using h)]
  rfl
theorem marks_getD {k : Int} {n j : Nat} (h : j < n) : (marks k n).getD j 0 = k + (j : Int) := by
  simp [marks, List.getD, h]

set_option maxHeartbeats 400000 in
theorem mark_any (lo : Nat) (v : Value) (xs : List Int) (k : Int) (w : World) (h : Own lo w v xs) (hk0 : 0 ≤ k) (hk : k ≤ 2000000000) (hs : xs.length ≤ 2000000000) :
    Calls Try.prog 20 #[v, .int .i64 k] w fun e w' => e = .returned (.int .i64 (k + (xs.length : Int))) ∧ Own lo w' v (marks k xs.length) ∧ w.grownBy w' v.ownBlock := by
  by_cases h0 : xs = []
  · subst h0
    obtain ⟨a, cap, rfl, _, _, _, _⟩ := h.sl
    have HO := Lib.hid h
    clear h
    go_enter Try.func20, Try.ntmps20
    go_wp2_with fail
    go_loop [1, 5] (fun t i => t = .int .i64 k ∧ i = .int .i64 0) (fun _ _ => 0)
    case atStart => exact ⟨rfl, rfl⟩
    case round =>
      obtain ⟨rfl, rfl⟩ := hrel
      go_wp2_with fail
      go_ret
      exact ⟨by simp, HO.out, World.grownBy.refl _ _⟩
  · have hne : 0 < xs.length := List.length_pos_iff.2 h0
    rcases h.2 with ⟨_, hn⟩ | ⟨g, cap, cur, rfl, hlo, _, hcap, _⟩
    · exact absurd hn (by omega)
    · have HO : Hid (w.ownsRow lo 3 1 (.slice (some ⟨g, 0, none⟩) xs.length cap) xs.length (vals xs)) := h
      have hg0 : w.grownBy w (some g) := World.grownBy.refl _ _
      clear h h0
      go_enter Try.func20, Try.ntmps20
      go_wp2_with fail
      go_loopw [1, 5] (fun t i wr => ∃ j : Nat, j ≤ xs.length ∧ i = .int .i64 j ∧ t = .int .i64 (k + (j : Int)) ∧ Hid (wr.ownsRow lo 3 1 (.slice (some ⟨g, 0, none⟩) xs.length cap) xs.length (vals (marked xs k j))) ∧ w.grownBy wr (some g)) (fun _ i _ => xs.length - (intOf i).toNat)
      case atStart => exact ⟨0, Nat.zero_le _, rfl, by simp, HO, hg0⟩
      case round =>
        clear HO hg0
        obtain ⟨j, hj, rfl, rfl, HO, hg⟩ := hrel
        by_cases hlt : j < xs.length
        · have hfz := HO.out.frozenAt j
          have hck3 : ∃ y, wr.cell? ⟨g, j, none⟩ = some y := by
            rw [HO.out.cellAt j (by omega), List.getElem?_eq_getElem (by simp [vals, marked_len hj, hlt])]; exact ⟨_, rfl⟩
          obtain ⟨y, hy⟩ := hck3
          have R := HO.out.stored j (.int .i64 (k + (j : Int)))
          rw [marked_step hlt] at R
          have HR := Lib.hid R
          clear R HO
          go_wp2_with fail
          go_roundw
          case rel => exact ⟨j + 1, by omega, by go_num, by go_num, HR.out.1, hg.trans HR.out.2⟩
          case measure => simp [intOf]; omega
        · obtain rfl : j = xs.length := by omega
          go_wp2_with fail
          go_ret
          refine ⟨by simp, ?_, hg⟩
          have := HO.out
          rw [marked_all xs k rfl] at this
          unfold Own
          rw [marks_len]
          exact this

set_option maxHeartbeats 400000 in
theorem held_any (v : Value) (k : Int) (n : Nat) (w : World) (h : Sl w v (marks k n)) (hk0 : 0 ≤ k) (hk : k ≤ 2000000000) (hs : n ≤ 2000000000) :
    Calls Try.prog 40 #[v, .int .i64 k] w fun e w' => e = .returned (.int .i64 (k + (n : Int))) ∧ w = w' := by
  obtain ⟨a, cap, rfl, hl, hm, hn, hc⟩ := h
  clear hm hn hl
  have hc : n = 0 ∨ ∃ b off, a = some ⟨b, off, none⟩ ∧ ∀ i, i < n → w.cell? ⟨b, off + i, none⟩ = some (.int .i64 (k + (i : Int))) := by
    rcases hc with hc | ⟨b, off, ha, _, hc⟩
    · left; simpa [marks] using hc
    · right; exact ⟨b, off, ha, fun i hi => by rw [hc i (by rw [marks_len]; exact hi), marks_getD hi]⟩
  rw [marks_len]
  go_enter Try.func40, Try.ntmps40
  go_wp2_with fail
  go_loop [1, 5] (fun t i => ∃ j : Nat, j ≤ n ∧ i = .int .i64 j ∧ t = .int .i64 (k + (j : Int))) (fun _ i => n - (intOf i).toNat)
  case atStart => exact ⟨0, Nat.zero_le _, rfl, by simp⟩
  case round =>
    obtain ⟨j, hj, rfl, rfl⟩ := hrel
    by_cases hlt : j < n
    · rcases hc with rfl | ⟨b, off, rfl, hcell⟩
      · exact absurd hlt (by omega)
      · have hck := hcell j hlt
        clear hcell
        go_wp2_with fail
        go_round
        case rel => exact ⟨j + 1, by omega, by go_num, by go_num⟩
        case measure => simp [intOf]; omega
    · obtain rfl : j = n := by omega
      go_wp2_with fail
      go_ret
      exact ⟨by simp, rfl⟩

end Go.Proofs.Ytkeoefbkeommhaa
