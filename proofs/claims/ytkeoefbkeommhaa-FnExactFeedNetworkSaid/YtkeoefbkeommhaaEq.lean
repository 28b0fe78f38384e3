/-
  What the comparisons of two slices of ints answer: the law's own two, slices.Equal, and the check for a prefix. No statement of the seat is proved here.
-/
import Derived.Test.YtkeoefbkeommhaaStream
import Derived.Deep.QuietTactic
import Derived.BigQuiet
namespace Go.Proofs.Ytkeoefbkeommhaa
open Go.RowKit

theorem take_step {xs ys : List Int} {k : Nat} {x : Int} (h1 : k < xs.length) (h2 : k < ys.length) (hx : x = xs.getD k 0) (hy : x = ys.getD k 0) (h : xs.take k = ys.take k) : xs.take (k + 1) = ys.take (k + 1) := by
  rw [take_snoc' h1, take_snoc' h2, ← hx, ← hy, h]
theorem ne_at {xs ys : List Int} {k : Nat} {x y : Int} (hx : x = xs.getD k 0) (hy : y = ys.getD k 0) (h : x ≠ y) : decide (xs = ys) = false :=
  decide_eq_false fun e => h (by rw [hx, hy, e])
theorem eq_end {xs ys : List Int} {k : Nat} (h1 : xs.length ≤ k) (h2 : ys.length ≤ k) (h : xs.take k = ys.take k) : decide (xs = ys) = true := by
  rw [List.take_of_length_le h1, List.take_of_length_le h2] at h
  exact decide_eq_true h
theorem ne_len {xs ys : List Int} (h : xs.length ≠ ys.length) : decide (xs = ys) = false := decide_eq_false fun e => h (by rw [e])
theorem drewN_add (w : World) (a b : Nat) : (w.drewN a).drewN b = w.drewN (a + b) := by
  unfold World.drewN; simp [Nat.add_assoc]

set_option maxHeartbeats 400000 in
theorem eqS_any (v u : Value) (xs ys : List Int) (w : World) (h : Sl w v xs) (k : Sl w u ys) :
    Calls Try.prog 18 #[v, u] w fun e w' => e = .returned (.bool (decide (xs = ys))) ∧ ∃ m, w' = w.drewN m := by
  obtain ⟨a, cap, rfl, hl, hm, hn, hc⟩ := h
  obtain ⟨a2, cap2, rfl, hl2, hm2, hn2, hc2⟩ := k
  have hm' : xs.length ≤ 9223372036854775807 := by unfold maxLen at hm; omega
  have hm2' : ys.length ≤ 9223372036854775807 := by unfold maxLen at hm2; omega
  clear hm hn hm2 hn2 hl hl2
  by_cases he : xs.length = ys.length
  · obtain ⟨n, hxn⟩ : ∃ n, xs.length = n := ⟨_, rfl⟩
    have hyn : ys.length = n := by omega
    rw [hxn] at hc hm' ⊢
    rw [hyn] at hc2 ⊢
    have HXN := Lib.hid hxn
    have HYN := Lib.hid hyn
    clear he hxn hyn hm2'
    go_enter Try.func18, Try.ntmps18
    go_wp2_with fail
    go_loopw [5] (fun i wr => ∃ k m : Nat, k ≤ n ∧ i = .int .i64 k ∧ Hid (xs.take k = ys.take k) ∧ wr = w.drewN m) (fun i _ => n - (intOf i).toNat)
    case atStart => exact ⟨0, 0, Nat.zero_le _, rfl, by simp [Hid], rfl⟩
    case round =>
      obtain ⟨k, m, hk, rfl, hE, rfl⟩ := hrel
      by_cases hlt : k < n
      · rcases hc with rfl | ⟨b, off, rfl, _, hcell⟩
        · exact absurd hlt (by have := HXN.out; simp at this; omega)
        · rcases hc2 with rfl | ⟨b2, off2, rfl, _, hcell2⟩
          · exact absurd hlt (by have := HYN.out; simp at this; omega)
          · obtain ⟨x, hx⟩ : ∃ x, x = xs.getD k 0 := ⟨_, rfl⟩
            obtain ⟨y, hy⟩ : ∃ y, y = ys.getD k 0 := ⟨_, rfl⟩
            have hck := hcell k hlt
            have hck2 := hcell2 k hlt
            rw [← hx] at hck
            rw [← hy] at hck2
            have HX := Lib.hid hx
            have HY := Lib.hid hy
            clear hx hy hcell hcell2
            by_cases hxy : x = y
            · subst hxy
              go_wp2_with fail
              go_quiet (fail)
              go_wp2_with fail
              go_roundw
              case rel => exact ⟨k + 1, _, by omega, by go_num, take_step (by rw [HXN.out]; exact hlt) (by rw [HYN.out]; exact hlt) HX.out HY.out hE.out, rfl⟩
              case measure => simp [intOf]; omega
            · go_wp2_with fail
              go_quiet (fail)
              go_wp2_with fail
              go_ret
              exact ⟨ret_bool (ne_at HX.out HY.out hxy), _, drewN_add _ _ _⟩
      · go_wp2_with fail
        go_ret
        exact ⟨ret_bool (eq_end (by rw [HXN.out]; omega) (by rw [HYN.out]; omega) hE.out), _, rfl⟩
  · rw [ne_len he]
    go_enter Try.func18, Try.ntmps18
    go_wp2_with fail
    go_ret
    exact ⟨rfl, 0, rfl⟩

theorem below_drewN (w : World) (n : Nat) : Below w.heap.size w (w.drewN n) := Below.toDraw (Below.refl _ _) n

theorem eqS_ok (v u : Value) (xs : List Int) (w : World) (h : Sl w v xs) (k : Sl w u xs) :
    Calls Try.prog 18 #[v, u] w fun e w' => e = .returned (.bool true) ∧ Below w.heap.size w w' :=
  (eqS_any v u xs xs w h k).mono fun e w' ⟨he, m, hw⟩ => ⟨by rw [he]; simp, hw ▸ below_drewN w m⟩
theorem sstreamB (v : Value) (xs : List Int) (w : World) (h : Sl w v xs) :
    Calls Try.prog 103 #[v] w fun e w' => e = .returned (.bool (isS xs)) ∧ Below w.heap.size w w' :=
  (sstream_any v xs w h).mono fun _ _ ⟨he, hw⟩ => ⟨he, hw ▸ Below.refl _ _⟩
theorem istreamB (v : Value) (xs : List Int) (w : World) (h : Sl w v xs) :
    Calls Try.prog 109 #[v] w fun e w' => e = .returned (.bool (isS xs)) ∧ Below w.heap.size w w' :=
  (istream_any v xs w h).mono fun _ _ ⟨he, hw⟩ => ⟨he, hw ▸ Below.refl _ _⟩
end Go.Proofs.Ytkeoefbkeommhaa
