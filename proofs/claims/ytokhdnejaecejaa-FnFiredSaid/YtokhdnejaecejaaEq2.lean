/-
  What the comparisons of two slices of ints answer: the law's other one, slices.Equal, and the check for a prefix. No statement of the seat is proved here.
-/
import Derived.Test.YtokhdnejaecejaaEq
namespace Go.Proofs.Ytokhdnejaecejaa
open Go.RowKit

set_option maxHeartbeats 400000 in
theorem ints_any (v u : Value) (xs ys : List Int) (w : World) (h : Sl w v xs) (k : Sl w u ys) :
    Calls Try.prog 39 #[v, u] w fun e w' => e = .returned (.bool (decide (xs = ys))) ∧ ∃ m, w' = w.drewN m := by
  obtain ⟨a, cap, rfl, hl, hm, hn, hc⟩ := h
  obtain ⟨a2, cap2, rfl, hl2, hm2, hn2, hc2⟩ := k
  have hm' : xs.length ≤ 9223372036854775807 := by unfold maxLen at hm; omega
  have hm2' : ys.length ≤ 9223372036854775807 := by unfold maxLen at hm2; omega
  clear hm hn hm2 hn2 hl hl2
  by_cases he : xs.length = ys.length
  · obtain ⟨n, hxn⟩ : ∃ n, xs.length = n := ⟨_, rfl⟩
    have hyn : ys.length = n := by omega
    rw [hxn] at hc hm' ⊢
    rw [hyn] at hc2 ⊢
    have HXN := Lib.hid hxn
    have HYN := Lib.hid hyn
    clear he hxn hyn hm2'
    go_enter Try.func39, Try.ntmps39
    go_wp2_with fail
    go_loopw [13] (fun i wr => ∃ k m : Nat, k ≤ n ∧ i = .int .i64 k ∧ Hid (xs.take k = ys.take k) ∧ wr = w.drewN m) (fun i _ => n - (intOf i).toNat)
    case atStart => exact ⟨0, 0, Nat.zero_le _, rfl, by simp [Hid], rfl⟩
    case round =>
      obtain ⟨k, m, hk, rfl, hE, rfl⟩ := hrel
      by_cases hlt : k < n
      · rcases hc with rfl | ⟨b, off, rfl, _, hcell⟩
        · exact absurd hlt (by have := HXN.out; simp at this; omega)
        · rcases hc2 with rfl | ⟨b2, off2, rfl, _, hcell2⟩
          · exact absurd hlt (by have := HYN.out; simp at this; omega)
          · obtain ⟨x, hx⟩ : ∃ x, x = xs.getD k 0 := ⟨_, rfl⟩
            obtain ⟨y, hy⟩ : ∃ y, y = ys.getD k 0 := ⟨_, rfl⟩
            have hck := hcell k hlt
            have hck2 := hcell2 k hlt
            rw [← hx] at hck
            rw [← hy] at hck2
            have HX := Lib.hid hx
            have HY := Lib.hid hy
            clear hx hy hcell hcell2
            by_cases hxy : x = y
            · subst hxy
              go_wp2_with fail
              go_quiet (fail)
              go_wp2_with fail
              go_roundw
              case rel => exact ⟨k + 1, _, by omega, by go_num, take_step (by rw [HXN.out]; exact hlt) (by rw [HYN.out]; exact hlt) HX.out HY.out hE.out, rfl⟩
              case measure => simp [intOf]; omega
            · go_wp2_with fail
              go_quiet (fail)
              go_wp2_with fail
              go_ret
              exact ⟨ret_bool (ne_at HX.out HY.out hxy), _, drewN_add _ _ _⟩
      · go_wp2_with fail
        go_ret
        exact ⟨ret_bool (eq_end (by rw [HXN.out]; omega) (by rw [HYN.out]; omega) hE.out), _, rfl⟩
  · rw [ne_len he]
    go_enter Try.func39, Try.ntmps39
    go_wp2_with fail
    go_ret
    exact ⟨rfl, 0, rfl⟩

def begB (xs ys : List Int) : Bool := decide (xs.length ≤ ys.length ∧ xs = ys.take xs.length)
theorem begB_long {xs ys : List Int} (h : ¬ xs.length ≤ ys.length) : begB xs ys = false := decide_eq_false fun e => h e.1
theorem begB_short {xs ys : List Int} (h : xs.length ≤ ys.length) : begB xs ys = decide (xs = ys.take xs.length) := by unfold begB; simp [h]
theorem begB_ne {xs ys : List Int} {k : Nat} {x y : Int} (h1 : k < xs.length) (hx : x = xs.getD k 0) (hy : y = ys.getD k 0) (h : x ≠ y) : begB xs ys = false :=
  decide_eq_false fun e => h (by
    have := congrArg (fun l => l.getD k 0) e.2
    simp only [List.getD_eq_getElem?_getD, List.getElem?_take, if_pos h1] at this
    rw [hx, hy]; simpa [List.getD] using this)
theorem begB_end {xs ys : List Int} {k : Nat} (h0 : xs.length ≤ ys.length) (h1 : k ≤ xs.length) (h2 : ¬ k < xs.length) (h : xs.take k = ys.take k) : begB xs ys = true := by
  obtain rfl : k = xs.length := by omega
  rw [List.take_length] at h
  exact decide_eq_true ⟨h0, h⟩

def prefB (xs ys : List Int) : Bool := isS xs && isS ys && begB xs ys

theorem ints_ok (v u : Value) (xs : List Int) (w : World) (h : Sl w v xs) (k : Sl w u xs) :
    Calls Try.prog 39 #[v, u] w fun e w' => e = .returned (.bool true) ∧ Below w.heap.size w w' :=
  (ints_any v u xs xs w h k).mono fun e w' ⟨he, m, hw⟩ => ⟨by rw [he]; simp, hw ▸ below_drewN w m⟩

end Go.Proofs.Ytokhdnejaecejaa
