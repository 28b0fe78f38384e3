/-
  What MeetStreams leaves, in the program and in its model; and what an append of one token to a slice of the call's own leaves. No statement of the seat is proved here.
-/
import Derived.Test.YthlpgpgfdfnofaaPrefix

namespace Go.Proofs.Ythlpgpgfdfnofaa
open Go.RowKit

/-! ### MeetStreams -/
def cpn : List Int → List Int → Nat
  | x :: xs, y :: ys => if x = y then cpn xs ys + 1 else 0
  | _, _ => 0
theorem cpn_le : ∀ xs ys : List Int, cpn xs ys ≤ xs.length
  | [], _ => by simp [cpn]
  | _ :: _, [] => by simp [cpn]
  | x :: xs, y :: ys => by
    have := cpn_le xs ys
    unfold cpn
    split
    · simp; omega
    · simp
theorem cpn_of (k : Nat) : ∀ xs ys : List Int, xs.take k = ys.take k → k ≤ xs.length → k ≤ ys.length → (k = xs.length ∨ k = ys.length ∨ xs.getD k 0 ≠ ys.getD k 0) → cpn xs ys = k := by
  induction k with
  | zero =>
    intro xs ys _ _ _ h
    match xs, ys with
    | [], _ => simp [cpn]
    | _ :: _, [] => simp [cpn]
    | x :: xs, y :: ys =>
      simp at h
      simp [cpn, h]
  | succ k ih =>
    intro xs ys he h1 h2 h
    match xs, ys with
    | [], _ => simp at h1
    | _ :: _, [] => simp at h2
    | x :: xs, y :: ys =>
      simp at he h1 h2 h
      obtain ⟨rfl, he⟩ := he
      simp [cpn, ih xs ys he h1 h2 (by simpa using h)]

def meetStreamsR0 (xs ys : List Int) : List Int := if isS xs && isS ys then xs.take (cpn xs ys) else []
theorem meetStreams_len0 (xs ys : List Int) : (meetStreamsR0 xs ys).length ≤ 400 := by
  unfold meetStreamsR0
  split
  · rename_i h; simp at h; have := isS_len h.1; simp; omega
  · simp
theorem meet1 {xs ys : List Int} (h : isS xs = false) : meetStreamsR0 xs ys = [] := by simp [meetStreamsR0, h]
theorem meet2 {xs ys : List Int} (h : isS ys = false) : meetStreamsR0 xs ys = [] := by simp [meetStreamsR0, h]
theorem meet3 {xs ys : List Int} (h : isS xs = true) (k : isS ys = true) : meetStreamsR0 xs ys = xs.take (cpn xs ys) := by simp [meetStreamsR0, h, k]

set_option maxHeartbeats 800000 in
theorem imeet_any (v : Value) (xs : List Int) (u : Value) (ys : List Int) (w : World) (h : Sl w v xs) (k : Sl w u ys) :
    Calls Try.prog 20 #[v, u] w fun e w' => ∃ r, e = .returned r ∧ Own w.heap.size w' r (meetStreamsR0 xs ys) ∧ Below w.heap.size w w' := by
  obtain ⟨a, cap, rfl, hr⟩ := h
  obtain ⟨a2, cap2, rfl, hr2⟩ := k
  have H := Lib.hid (show Sl w (.slice a xs.length cap) xs from ⟨a, cap, rfl, hr⟩)
  have K := Lib.hid (show Sl w (.slice a2 ys.length cap2) ys from ⟨a2, cap2, rfl, hr2⟩)
  have C1 := Lib.hid (istream_any _ xs w H.out)
  have C2 := Lib.hid (istream_any _ ys w K.out)
  cases h1 : isS xs with
  | false =>
    rw [meet1 h1]
    rw [h1] at C1
    clear h1 hr hr2
    go_enter Try.func20, Try.ntmps20
    go_wp2_with fail
    refine C1.out.mono ?_
    rintro e w' ⟨rfl, rfl⟩
    go_wp2_with fail
    go_ret
    exact ⟨_, rfl, own_nil _ _, Below.refl _ _⟩
  | true =>
    cases h2 : isS ys with
    | false =>
      rw [meet2 h2]
      rw [h1] at C1
      rw [h2] at C2
      clear h1 h2 hr hr2
      go_enter Try.func20, Try.ntmps20
      go_wp2_with fail
      refine C1.out.mono ?_
      rintro e w' ⟨rfl, rfl⟩
      go_wp2_with fail
      refine C2.out.mono ?_
      rintro e w' ⟨rfl, rfl⟩
      go_wp2_with fail
      go_ret
      exact ⟨_, rfl, own_nil _ _, Below.refl _ _⟩
    | true =>
      rw [meet3 h1 h2]
      have hl1 := isS_len h1
      have hl2 := isS_len h2
      rw [h1] at C1
      rw [h2] at C2
      have hcap : xs.length ≤ cap ∧ cap ≤ 9223372036854775807 := by have := hr.1; have := hr.2.1; unfold maxLen at this; omega
      have hc := hr.2.2.2
      have hc2 := hr2.2.2.2
      clear h1 h2 hr hr2
      go_enter Try.func20, Try.ntmps20
      go_wp2_with fail
      refine C1.out.mono ?_
      rintro e w' ⟨rfl, rfl⟩
      go_wp2_with fail
      refine C2.out.mono ?_
      rintro e w' ⟨rfl, rfl⟩
      go_wp2_with fail
      clear C1 C2
      go_loopw [5] (fun i wr => ∃ k m : Nat, k ≤ xs.length ∧ k ≤ ys.length ∧ i = .int .i64 k ∧ Hid (xs.take k = ys.take k) ∧ wr = w.drewN m) (fun i _ => xs.length - (intOf i).toNat)
      case atStart => exact ⟨0, 0, Nat.zero_le _, Nat.zero_le _, rfl, by simp [Hid], rfl⟩
      case round =>
        obtain ⟨k, m, hk1, hk2, rfl, hE, rfl⟩ := hrel
        by_cases hlt : k < xs.length
        · by_cases hlt2 : k < ys.length
          · rcases hc with rfl | ⟨b, off, rfl, _, hcell⟩
            · exact absurd hlt (by simp)
            · rcases hc2 with rfl | ⟨b2, off2, rfl, _, hcell2⟩
              · exact absurd hlt2 (by simp)
              · obtain ⟨x, hx⟩ : ∃ x, x = xs.getD k 0 := ⟨_, rfl⟩
                obtain ⟨y, hy⟩ : ∃ y, y = ys.getD k 0 := ⟨_, rfl⟩
                have hck := hcell k hlt
                have hck2 := hcell2 k hlt2
                rw [← hx] at hck
                rw [← hy] at hck2
                have HX := Lib.hid hx
                have HY := Lib.hid hy
                clear hx hy hcell hcell2
                have d1 : decide ((k : Int) < (xs.length : Int)) = true := decide_eq_true (by omega)
                have d2 : decide ((k : Int) < (ys.length : Int)) = true := decide_eq_true (by omega)
                by_cases hxy : x = y
                · subst hxy
                  go_wp2_with fail
                  go_quiet (fail)
                  go_wp2_with fail
                  go_roundw
                  case rel => exact ⟨k + 1, _, by omega, by omega, by go_num, take_step hlt hlt2 HX.out HY.out hE.out, rfl⟩
                  case measure => simp [intOf]; omega
                · have d3 : (x == y) = false := by simpa using hxy
                  go_wp2_with fail
                  go_quiet (fail)
                  go_wp2_with fail
                  refine (copyOf_any _ (xs.take k) _ ((H.out.take hk1).below (below_drewN _ _)) (by simp; omega)).mono ?_
                  rintro e w2 ⟨r, rfl, ho, hb2⟩
                  go_wp2_with fail
                  go_ret
                  refine ⟨r, rfl, ?_, (below_drewN w (m + nq)).trans hb2⟩
                  rw [cpn_of k xs ys hE.out hk1 hk2 (.inr (.inr (by rw [← HX.out, ← HY.out]; exact hxy)))]
                  exact ho
          · have d1 : decide ((k : Int) < (xs.length : Int)) = true := decide_eq_true (by omega)
            have d2 : decide ((k : Int) < (ys.length : Int)) = false := decide_eq_false (by omega)
            go_wp2_with fail
            go_quiet (fail)
            go_wp2_with fail
            refine (copyOf_any _ (xs.take k) _ ((H.out.take hk1).below (below_drewN _ _)) (by simp; omega)).mono ?_
            rintro e w2 ⟨r, rfl, ho, hb2⟩
            go_wp2_with fail
            go_ret
            refine ⟨r, rfl, ?_, (below_drewN w (m + nq)).trans hb2⟩
            rw [cpn_of k xs ys hE.out hk1 hk2 (.inr (.inl (by omega)))]
            exact ho
        · have d1 : decide ((k : Int) < (xs.length : Int)) = false := decide_eq_false (by omega)
          go_wp2_with fail
          go_quiet (fail)
          go_wp2_with fail
          refine (copyOf_any _ (xs.take k) _ ((H.out.take hk1).below (below_drewN _ _)) (by simp; omega)).mono ?_
          rintro e w2 ⟨r, rfl, ho, hb2⟩
          go_wp2_with fail
          go_ret
          refine ⟨r, rfl, ?_, (below_drewN w (m + nq)).trans hb2⟩
          rw [cpn_of k xs ys hE.out hk1 hk2 (.inl (by omega))]
          exact ho

end Go.Proofs.Ythlpgpgfdfnofaa
