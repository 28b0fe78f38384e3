/-
  What the two functions IsStream answer. No statement of the seat is proved here.
-/
import Derived.Test.YtkeoefbkeommhaaBase
namespace Go.Proofs.Ytkeoefbkeommhaa
open Go.RowKit

def isTok (n : Int) : Bool := decide (-999999 ≤ n ∧ n ≤ 999999)
def isS (xs : List Int) : Bool := decide (xs.length ≤ 400) && xs.all isTok

theorem isTok_yes {n : Int} (h : -999999 ≤ n) (k : n ≤ 999999) : isTok n = true := decide_eq_true ⟨h, k⟩
theorem isTok_lo {n : Int} (h : n < -999999) : isTok n = false := decide_eq_false (by omega)
theorem isTok_hi {n : Int} (h : 999999 < n) : isTok n = false := decide_eq_false (by omega)
theorem isTok_bd {n : Int} (h : isTok n = true) : -999999 ≤ n ∧ n ≤ 999999 := of_decide_eq_true h
theorem isS_len {xs : List Int} (h : isS xs = true) : xs.length ≤ 400 := by
  unfold isS at h; simp at h; exact h.1
theorem isS_all {xs : List Int} (h : isS xs = true) : ∀ x ∈ xs, isTok x = true := by
  unfold isS at h; simp at h; exact h.2
theorem isS_long {xs : List Int} (h : ¬ xs.length ≤ 400) : isS xs = false := by
  unfold isS; simp [h]
theorem isS_short {xs : List Int} (h : xs.length ≤ 400) : isS xs = xs.all isTok := by
  unfold isS; simp [h]
theorem isS_mk {xs : List Int} (h : xs.length ≤ 400) (k : ∀ x ∈ xs, isTok x = true) : isS xs = true := by
  rw [isS_short h]; exact List.all_eq_true.2 k
theorem take_snoc' {xs : List Int} {k : Nat} (h : k < xs.length) : xs.take (k + 1) = xs.take k ++ [xs.getD k 0] := by
  rw [List.take_succ_eq_append_getElem h]; simp [List.getD, h]
theorem all_step {p : Int → Bool} {xs : List Int} {k : Nat} {x : Int} (h : k < xs.length) (hx : x = xs.getD k 0) (ha : (xs.take k).all p = true) (hp : p x = true) : (xs.take (k + 1)).all p = true := by
  rw [take_snoc' h, ← hx]; simp at ha ⊢; exact ⟨ha, hp⟩
theorem all_no {p : Int → Bool} {xs : List Int} {k : Nat} {x : Int} (h : k < xs.length) (hx : x = xs.getD k 0) (hp : p x = false) : xs.all p = false := by
  rw [List.all_eq_false]
  exact ⟨x, by rw [hx]; simp [List.getD, h], by simp [hp]⟩
theorem all_end {p : Int → Bool} {xs : List Int} {k : Nat} (h : ¬ k < xs.length) (ha : (xs.take k).all p = true) : xs.all p = true := by
  rwa [List.take_of_length_le (by omega)] at ha
theorem ret_bool {a b : Bool} (h : b = a) : Ending.returned (.bool a) = .returned (.bool b) := by rw [h]

set_option maxHeartbeats 400000 in
theorem itok_any (n : Int) (w : World) :
    Calls Try.prog 156 #[.int .i64 n] w fun e w' => e = .returned (.bool (isTok n)) ∧ w = w' := by
  have h1 := @isTok_yes n
  have h2 := @isTok_lo n
  have h3 := @isTok_hi n
  generalize isTok n = r at *
  by_cases c1 : n < -999999
  · have e := h2 c1
    clear h1 h2 h3
    subst e
    have c1' : decide (-999999 ≤ n) = false := decide_eq_false (by omega)
    go_enter Try.func156, Try.ntmps156
    go_wp2
    go_ret
    exact ⟨rfl, rfl⟩
  · have c1' : decide (-999999 ≤ n) = true := decide_eq_true (by omega)
    by_cases c2 : n ≤ 999999
    · have e := h1 (by omega) c2
      clear h1 h2 h3
      subst e
      have c2' : decide (n ≤ 999999) = true := decide_eq_true c2
      go_enter Try.func156, Try.ntmps156
      go_wp2
      go_ret
      exact ⟨rfl, rfl⟩
    · have e := h3 (by omega)
      clear h1 h2 h3
      subst e
      have c2' : decide (n ≤ 999999) = false := decide_eq_false c2
      go_enter Try.func156, Try.ntmps156
      go_wp2
      go_ret
      exact ⟨rfl, rfl⟩

set_option maxHeartbeats 400000 in
theorem stok_any (n : Int) (w : World) :
    Calls Try.prog 152 #[.int .i64 n] w fun e w' => e = .returned (.bool (isTok n)) ∧ w = w' := by
  have h1 := @isTok_yes n
  have h2 := @isTok_lo n
  have h3 := @isTok_hi n
  generalize isTok n = r at *
  by_cases c1 : n < -999999
  · have e := h2 c1
    clear h1 h2 h3
    subst e
    have c1' : decide (-999999 ≤ n) = false := decide_eq_false (by omega)
    go_enter Try.func152, Try.ntmps152
    go_wp2
    go_ret
    exact ⟨rfl, rfl⟩
  · have c1' : decide (-999999 ≤ n) = true := decide_eq_true (by omega)
    by_cases c2 : n ≤ 999999
    · have e := h1 (by omega) c2
      clear h1 h2 h3
      subst e
      have c2' : decide (n ≤ 999999) = true := decide_eq_true c2
      go_enter Try.func152, Try.ntmps152
      go_wp2
      go_ret
      exact ⟨rfl, rfl⟩
    · have e := h3 (by omega)
      clear h1 h2 h3
      subst e
      have c2' : decide (n ≤ 999999) = false := decide_eq_false c2
      go_enter Try.func152, Try.ntmps152
      go_wp2
      go_ret
      exact ⟨rfl, rfl⟩

set_option maxHeartbeats 400000 in
theorem istream_any (v : Value) (xs : List Int) (w : World) (h : Sl w v xs) :
    Calls Try.prog 109 #[v] w fun e w' => e = .returned (.bool (isS xs)) ∧ w = w' := by
  obtain ⟨a, cap, rfl, hl, hm, hn, hc⟩ := h
  have hm' : xs.length ≤ 9223372036854775807 := by unfold maxLen at hm; omega
  clear hm hn
  by_cases h4 : xs.length ≤ 400
  · rw [isS_short h4]
    go_enter Try.func109, Try.ntmps109
    go_wp2_with fail
    go_loop [10] (fun i => ∃ k : Nat, k ≤ xs.length ∧ i = .int .i64 k ∧ Hid ((xs.take k).all isTok = true)) (fun i => xs.length - (intOf i).toNat)
    case atStart => exact ⟨0, Nat.zero_le _, rfl, by simp [Hid]⟩
    case round =>
      obtain ⟨k, hk, rfl, hA⟩ := hrel
      by_cases hlt : k < xs.length
      · rcases hc with rfl | ⟨b, off, rfl, _, hcell⟩
        · exact absurd hlt (by simp)
        · obtain ⟨x, hx⟩ : ∃ x, x = xs.getD k 0 := ⟨_, rfl⟩
          have hck := hcell k hlt
          rw [← hx] at hck
          have HX := Lib.hid hx
          clear hx hcell
          cases ht : isTok x with
          | true =>
            go_wp2_with (go_at_call 156; refine (itok_any _ _).mono ?_; rintro e w' ⟨rfl, rfl⟩)
            go_round
            case rel => exact ⟨k + 1, by omega, by go_num, all_step hlt HX.out hA.out ht⟩
            case measure => simp [intOf]; omega
          | false =>
            go_wp2_with (go_at_call 156; refine (itok_any _ _).mono ?_; rintro e w' ⟨rfl, rfl⟩)
            go_ret
            exact ⟨ret_bool (all_no hlt HX.out ht), rfl⟩
      · go_wp2_with fail
        go_ret
        exact ⟨ret_bool (all_end hlt hA.out), rfl⟩
  · rw [isS_long h4]
    go_enter Try.func109, Try.ntmps109
    go_wp2_with fail
    go_ret
    exact ⟨rfl, rfl⟩

set_option maxHeartbeats 400000 in
theorem sstream_any (v : Value) (xs : List Int) (w : World) (h : Sl w v xs) :
    Calls Try.prog 103 #[v] w fun e w' => e = .returned (.bool (isS xs)) ∧ w = w' := by
  obtain ⟨a, cap, rfl, hl, hm, hn, hc⟩ := h
  have hm' : xs.length ≤ 9223372036854775807 := by unfold maxLen at hm; omega
  clear hm hn
  go_enter Try.func103, Try.ntmps103
  go_wp2_with fail
  go_loop [7] (fun i => ∃ k : Nat, k ≤ xs.length ∧ i = .int .i64 k ∧ Hid ((xs.take k).all isTok = true)) (fun i => xs.length - (intOf i).toNat)
  case atStart => exact ⟨0, Nat.zero_le _, rfl, by simp [Hid]⟩
  case round =>
    obtain ⟨k, hk, rfl, hA⟩ := hrel
    by_cases hlt : k < xs.length
    · rcases hc with rfl | ⟨b, off, rfl, _, hcell⟩
      · exact absurd hlt (by simp)
      · obtain ⟨x, hx⟩ : ∃ x, x = xs.getD k 0 := ⟨_, rfl⟩
        have hck := hcell k hlt
        rw [← hx] at hck
        have HX := Lib.hid hx
        clear hx hcell
        cases ht : isTok x with
        | true =>
          go_wp2_with (go_at_call 152; refine (stok_any _ _).mono ?_; rintro e w' ⟨rfl, rfl⟩)
          go_round
          case rel => exact ⟨k + 1, by omega, by go_num, all_step hlt HX.out hA.out ht⟩
          case measure => simp [intOf]; omega
        | false =>
          go_wp2_with (go_at_call 152; refine (stok_any _ _).mono ?_; rintro e w' ⟨rfl, rfl⟩)
          go_ret
          exact ⟨ret_bool (by unfold isS; rw [all_no hlt HX.out ht]; simp), rfl⟩
    · go_wp2_with fail
      go_ret
      exact ⟨ret_bool (by unfold isS; rw [all_end hlt hA.out]; simp; omega), rfl⟩

end Go.Proofs.Ytkeoefbkeommhaa
