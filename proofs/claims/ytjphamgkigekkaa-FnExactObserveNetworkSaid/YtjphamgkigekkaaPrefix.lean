/-
  What IsPrefix, JoinStreams, RestOf and AppendStream leave, in the program and in its model. No statement of the seat is proved here.
-/
import Derived.Test.YtjphamgkigekkaaMake
import Derived.Test.YtjphamgkigekkaaEq2
namespace Go.Proofs.Ytjphamgkigekkaa
open Go.RowKit

theorem prefB_parts {xs ys : List Int} (h : prefB xs ys = true) : isS xs = true ∧ isS ys = true ∧ begB xs ys = true := by
  unfold prefB at h; simp at h; exact ⟨h.1.1, h.1.2, h.2⟩
theorem begB_parts {xs ys : List Int} (h : begB xs ys = true) : xs.length ≤ ys.length ∧ xs = ys.take xs.length := of_decide_eq_true h
theorem prefB_len {xs ys : List Int} (h : prefB xs ys = true) : xs.length ≤ 400 ∧ ys.length ≤ 400 ∧ xs.length ≤ ys.length :=
  ⟨isS_len (prefB_parts h).1, isS_len (prefB_parts h).2.1, (begB_parts (prefB_parts h).2.2).1⟩

set_option maxHeartbeats 800000 in
theorem iprefix_any (v u : Value) (xs ys : List Int) (w : World) (h : Sl w v xs) (k : Sl w u ys) :
    Calls Try.prog 140 #[v, u] w fun e w' => e = .returned (.bool (prefB xs ys)) ∧ ∃ m, w' = w.drewN m := by
  obtain ⟨a, cap, rfl, hr⟩ := h
  obtain ⟨a2, cap2, rfl, hr2⟩ := k
  have H := Lib.hid (show Sl w (.slice a xs.length cap) xs from ⟨a, cap, rfl, hr⟩)
  have K := Lib.hid (show Sl w (.slice a2 ys.length cap2) ys from ⟨a2, cap2, rfl, hr2⟩)
  have hb1 : xs.length ≤ 9223372036854775807 := by have := hr.1; have := hr.2.1; unfold maxLen at this; omega
  have hb2 : ys.length ≤ cap2 ∧ cap2 ≤ 9223372036854775807 := by have := hr2.1; have := hr2.2.1; unfold maxLen at this; omega
  clear hr hr2
  have C1 := Lib.hid (istream_any _ xs w H.out)
  have C2 := Lib.hid (istream_any _ ys w K.out)
  obtain ⟨r1, h1⟩ : ∃ r, r = isS xs := ⟨_, rfl⟩
  obtain ⟨r2, h2⟩ : ∃ r, r = isS ys := ⟨_, rfl⟩
  unfold prefB
  rw [← h1] at C1 ⊢
  rw [← h2] at C2 ⊢
  clear h1 h2
  cases r1 with
  | false =>
    go_enter Try.func140, Try.ntmps140
    go_wp2_with fail
    refine C1.out.mono ?_
    rintro e w' ⟨rfl, rfl⟩
    go_wp2_with fail
    go_ret
    exact ⟨rfl, 0, rfl⟩
  | true =>
    cases r2 with
    | false =>
      go_enter Try.func140, Try.ntmps140
      go_wp2_with fail
      refine C1.out.mono ?_
      rintro e w' ⟨rfl, rfl⟩
      go_wp2_with fail
      refine C2.out.mono ?_
      rintro e w' ⟨rfl, rfl⟩
      go_wp2_with fail
      go_ret
      exact ⟨rfl, 0, rfl⟩
    | true =>
      by_cases hle : xs.length ≤ ys.length
      · have C3 := Lib.hid (equal_any _ _ xs (ys.take xs.length) w H.out (K.out.take hle))
        rw [begB_short hle]
        obtain ⟨r3, h3⟩ : ∃ r, r = decide (xs = ys.take xs.length) := ⟨_, rfl⟩
        rw [← h3] at C3 ⊢
        clear h3
        have hd : decide ((xs.length : Int) ≤ (ys.length : Int)) = true := decide_eq_true (by omega)
        go_enter Try.func140, Try.ntmps140
        go_wp2_with fail
        refine C1.out.mono ?_
        rintro e w' ⟨rfl, rfl⟩
        go_wp2_with fail
        refine C2.out.mono ?_
        rintro e w' ⟨rfl, rfl⟩
        go_wp2_with fail
        refine C3.out.mono ?_
        rintro e w' ⟨rfl, m, rfl⟩
        go_wp2_with fail
        go_ret
        exact ⟨by simp, m, rfl⟩
      · rw [begB_long hle]
        have hd : decide ((xs.length : Int) ≤ (ys.length : Int)) = false := decide_eq_false (by omega)
        go_enter Try.func140, Try.ntmps140
        go_wp2_with fail
        refine C1.out.mono ?_
        rintro e w' ⟨rfl, rfl⟩
        go_wp2_with fail
        refine C2.out.mono ?_
        rintro e w' ⟨rfl, rfl⟩
        go_wp2_with fail
        go_ret
        exact ⟨by simp, 0, rfl⟩

theorem iprefixB (v : Value) (xs : List Int) (u : Value) (ys : List Int) (w : World) (h : Sl w v xs) (k : Sl w u ys) :
    Calls Try.prog 140 #[v, u] w fun e w' => e = .returned (.bool (prefB xs ys)) ∧ Below w.heap.size w w' :=
  (iprefix_any v u xs ys w h k).mono fun _ _ ⟨he, m, hw⟩ => ⟨he, hw ▸ below_drewN w m⟩

/-! ### JoinStreams -/
def joinStreamsR0 (xs ys : List Int) : List Int := if prefB xs ys then ys else if prefB ys xs then xs else []
def joinStreamsB (xs ys : List Int) : Bool := prefB xs ys || prefB ys xs
theorem joinStreams_len0 (xs ys : List Int) : (joinStreamsR0 xs ys).length ≤ 400 := by
  unfold joinStreamsR0
  split
  · exact (prefB_len (by assumption)).2.1
  · split
    · exact (prefB_len (by assumption)).2.1
    · simp


theorem join1 {xs ys : List Int} (h : prefB xs ys = true) : joinStreamsR0 xs ys = ys ∧ joinStreamsB xs ys = true := by simp [joinStreamsR0, joinStreamsB, h]
theorem join2 {xs ys : List Int} (h : prefB xs ys = false) (k : prefB ys xs = true) : joinStreamsR0 xs ys = xs ∧ joinStreamsB xs ys = true := by simp [joinStreamsR0, joinStreamsB, h, k]
theorem join3 {xs ys : List Int} (h : prefB xs ys = false) (k : prefB ys xs = false) : joinStreamsR0 xs ys = [] ∧ joinStreamsB xs ys = false := by simp [joinStreamsR0, joinStreamsB, h, k]

/-! ### RestOf -/
def restOfR0 (xs ys : List Int) : List Int := if prefB xs ys then ys.drop xs.length else []
theorem restOf_len0 (xs ys : List Int) : (restOfR0 xs ys).length ≤ 400 := by
  unfold restOfR0
  split
  · have := (prefB_len (by assumption : prefB xs ys = true)).2.1; simp; omega
  · simp
theorem rest1 {xs ys : List Int} (h : prefB xs ys = true) : restOfR0 xs ys = ys.drop xs.length := by simp [restOfR0, h]
theorem rest2 {xs ys : List Int} (h : prefB xs ys = false) : restOfR0 xs ys = [] := by simp [restOfR0, h]
theorem sl_empty (w : World) (a : Option Addr) (cap : Nat) (hc : cap ≤ maxLen) : cap = 0 → Sl w (.slice a 0 cap) [] := fun h => ⟨a, cap, rfl, by simp, hc, fun _ => h, .inl rfl⟩

end Go.Proofs.Ytjphamgkigekkaa
