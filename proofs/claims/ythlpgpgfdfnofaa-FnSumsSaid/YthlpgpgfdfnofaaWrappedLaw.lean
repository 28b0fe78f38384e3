/-
  The walk of the law FnWrapped: it answers true and changes nothing that was there.
-/
import Derived.Test.YthlpgpgfdfnofaaBytes
import Derived.Test.YthlpgpgfdfnofaaWrap
import Derived.Test.YthlpgpgfdfnofaaStream
namespace Go.Proofs.Ythlpgpgfdfnofaa
open Go.RowKit

theorem wrapT_mod (n : Int) : (n - wrapT n) % 1999999 = 0 := by
  have h := Int.mul_tdiv_add_tmod n 1999999
  unfold wrapT
  split
  · omega
  · split <;> omega
theorem wrapT_eq {n r : Int} (h : -999999 ≤ r) (k : r ≤ 999999) (e : (n - r) % 1999999 = 0) : wrapT n = r := by
  have := wrapT_mod n
  have := wrapT_bd n
  omega
theorem tmod_mod (n : Int) : (n - n.tmod 1999999) % 1999999 = 0 := by
  have h := Int.mul_tdiv_add_tmod n 1999999
  omega
theorem mul_mod2 {a b c d : Int} (h : (a - c) % 1999999 = 0) (k : (b - d) % 1999999 = 0) : (a * b - c * d) % 1999999 = 0 := by
  obtain ⟨p, hp⟩ := Int.dvd_of_emod_eq_zero h
  obtain ⟨q, hq⟩ := Int.dvd_of_emod_eq_zero k
  have e : a * b - c * d = 1999999 * (p * b + c * q) := by
    rw [Int.mul_add, ← Int.mul_assoc, ← hp, Int.mul_left_comm, ← hq, Int.sub_mul, Int.mul_sub]
    omega
  rw [e]
  exact Int.mul_emod_right _ _
theorem tmod_zero {n : Int} (h : n % 1999999 = 0) : n.tmod 1999999 = 0 := by
  have := Int.mul_tdiv_add_tmod n 1999999
  have := tmod_bd n
  exact Int.tmod_eq_zero_of_dvd (Int.dvd_of_emod_eq_zero h)
theorem mul_bd {a b p q : Int} (h0 : 0 ≤ a) (h1 : a ≤ p) (k0 : 0 ≤ b) (k1 : b ≤ q) : 0 ≤ a * b ∧ a * b ≤ p * q :=
  ⟨Int.mul_nonneg h0 k0, Int.mul_le_mul h1 k1 k0 (Int.le_trans h0 h1)⟩
theorem mul_abs {a b p : Int} (h0 : -p ≤ a) (h1 : a ≤ p) (k0 : -p ≤ b) (k1 : b ≤ p) : -(p * p) ≤ a * b ∧ a * b ≤ p * p := by
  have e1 := Int.mul_nonneg (show 0 ≤ p - a by omega) (show 0 ≤ p - b by omega)
  have e2 := Int.mul_nonneg (show 0 ≤ p + a by omega) (show 0 ≤ p + b by omega)
  have e3 := Int.mul_nonneg (show 0 ≤ p - a by omega) (show 0 ≤ p + b by omega)
  have e4 := Int.mul_nonneg (show 0 ≤ p + a by omega) (show 0 ≤ p - b by omega)
  simp only [Int.sub_mul, Int.add_mul, Int.mul_sub, Int.mul_add] at e1 e2 e3 e4
  have c1 : p * a = a * p := Int.mul_comm _ _
  have c2 : p * b = b * p := Int.mul_comm _ _
  omega

theorem pair_sl (w : World) (x y : Int) : Sl (w.alloc (.cells #[.int .i64 x, .int .i64 y] 3)) (.slice (some ⟨w.heap.size, 0, none⟩) 2 2) [x, y] := by
  have h := World.ownsRow_lit (base := w.heap.size) (e := 3) (size := 1) w #[.int .i64 x, .int .i64 y] 2 (Nat.le_refl _) (by unfold maxLen; omega) rfl
  exact Own.sl (lo := w.heap.size) (xs := [x, y]) h

set_option maxRecDepth 100000 in
set_option maxHeartbeats 1600000 in
theorem fnWrapped_core (a : Option Addr) (cap : Nat) (bs : List Int) (w : World) (h : Sb w (.slice a bs.length cap) bs) (hs : bs.length ≤ 1048576) :
    Calls Try.prog 3 #[.slice a bs.length cap] w fun e w' => e = .returned (.bool true) ∧ Below w.heap.size w w' := by
  have H := Lib.hid h
  obtain ⟨l, hl⟩ : ∃ l, l = bs.length := ⟨_, rfl⟩
  rw [← hl] at H hs ⊢
  have HL := Lib.hid hl
  clear h hl
  go_enter Try.func3, Try.ntmps3
  go_wp2_with fail
  refine (at_any _ bs 1 _ H.out (by rw [← HL.out]; exact hs) (by omega) (by omega)).mono ?_
  rintro e w' ⟨r1, rfl, a1, b1, rfl⟩
  go_wp2_with fail
  refine (at_any _ bs 2 _ H.out (by rw [← HL.out]; exact hs) (by omega) (by omega)).mono ?_
  rintro e w' ⟨r2, rfl, a2, b2, rfl⟩
  have m1 := mul_bd a1 b1 a2 b2
  go_wp2_with fail
  refine (at_any _ bs 3 _ H.out (by rw [← HL.out]; exact hs) (by omega) (by omega)).mono ?_
  rintro e w' ⟨r3, rfl, a3, b3, rfl⟩
  have m2 := mul_bd m1.1 m1.2 a3 b3
  go_wp2_with fail
  refine (at_any _ bs 4 _ H.out (by rw [← HL.out]; exact hs) (by omega) (by omega)).mono ?_
  rintro e w' ⟨r4, rfl, a4, b4, rfl⟩
  go_wp2_with fail
  refine (at_any _ bs 5 _ H.out (by rw [← HL.out]; exact hs) (by omega) (by omega)).mono ?_
  rintro e w' ⟨r5, rfl, a5, b5, rfl⟩
  have m3 := mul_bd a4 b4 a5 b5
  go_wp2_with fail
  refine (at_any _ bs 6 _ H.out (by rw [← HL.out]; exact hs) (by omega) (by omega)).mono ?_
  rintro e w' ⟨r6, rfl, a6, b6, rfl⟩
  go_wp2_with fail
  refine (at_any _ bs 7 _ H.out (by rw [← HL.out]; exact hs) (by omega) (by omega)).mono ?_
  rintro e w' ⟨r7, rfl, a7, b7, rfl⟩
  have m4 := mul_bd a6 b6 a7 b7
  go_wp2_with fail
  refine (at_any _ bs 8 _ H.out (by rw [← HL.out]; exact hs) (by omega) (by omega)).mono ?_
  rintro e w' ⟨r8, rfl, a8, b8, rfl⟩
  go_wp2_with fail
  have eA : ∃ A : Int, A = r1 * r2 * r3 - r4 * r5 * 997 ∧ -100000000 ≤ A ∧ A ≤ 100000000 := ⟨_, rfl, by omega, by omega⟩
  have eB : ∃ B : Int, B = r6 * r7 * 1009 - r8 * 40000 ∧ -100000000 ≤ B ∧ B ≤ 100000000 := ⟨_, rfl, by omega, by omega⟩
  obtain ⟨A, hA, hA1, hA2⟩ := eA
  obtain ⟨B, hB, hB1, hB2⟩ := eB
  simp only [← hA, ← hB]
  clear hA hB m1 m2 m3 m4 a1 a2 a3 a4 a5 a6 a7 a8 b1 b2 b3 b4 b5 b6 b7 b8
  have C1 := Lib.hid (fun w => iwrap_any A w)
  have C2 := Lib.hid (fun w => iwrap_any B w)
  have C5 := Lib.hid (fun w => iwrap_any (wrapT A) w)
  have C3 := Lib.hid (fun w => iwrap_any (wrapT A + wrapT B) w)
  have C4 := Lib.hid (fun w => iwrap_any (A + B) w)
  have C6 := Lib.hid (fun w => iwrap_any (wrapT A * wrapT B) w)
  have C7 := Lib.hid (fun w => iwrap_any (A.tmod 1999999 * B.tmod 1999999) w)
  have C8 := Lib.hid (fun w => iwrap_any (-A) w)
  have xb := wrapT_bd A
  have yb := wrapT_bd B
  have xm := wrapT_mod A
  have ym := wrapT_mod B
  have tA := tmod_bd A
  have tB := tmod_bd B
  have q1 : wrapT (wrapT A) = wrapT A := wrapT_eq xb.1 xb.2 (by omega)
  have q2 : wrapT (A + B) = wrapT (wrapT A + wrapT B) := by
    have := wrapT_mod (A + B)
    exact (wrapT_eq (wrapT_bd _).1 (wrapT_bd _).2 (by omega)).symm
  have q3 : wrapT (A.tmod 1999999 * B.tmod 1999999) = wrapT (wrapT A * wrapT B) := by
    have e := mul_mod2 (a := wrapT A) (b := wrapT B) (c := A.tmod 1999999) (d := B.tmod 1999999) (by have := tmod_mod A; omega) (by have := tmod_mod B; omega)
    have := wrapT_mod (wrapT A * wrapT B)
    exact wrapT_eq (wrapT_bd _).1 (wrapT_bd _).2 (by omega)
  have q4 : wrapT (-A) = -wrapT A := wrapT_eq (by omega) (by omega) (by omega)
  have q5 : ((A - wrapT A).tmod 1999999 == 0) = true := by rw [tmod_zero xm]; rfl
  have pm := mul_abs (p := 999999) xb.1 xb.2 yb.1 yb.2
  have pt := mul_abs (p := 1999998) tA.1 tA.2 tB.1 tB.2
  have CS := Lib.hid (fun w => sstream_any _ _ _ (pair_sl w (wrapT A) (wrapT B)))
  rw [isS_mk (by simp) (by intro x hx; simp at hx; rcases hx with rfl | rfl; exact isTok_yes xb.1 xb.2; exact isTok_yes yb.1 yb.2)] at CS
  rw [q1] at C5
  rw [q2] at C4
  rw [q3] at C7
  rw [q4] at C8
  clear q1 q2 q3 q4 xm ym
  obtain ⟨z, hz⟩ : ∃ z, wrapT (wrapT A + wrapT B) = z := ⟨_, rfl⟩
  obtain ⟨p, hp⟩ : ∃ p, wrapT (wrapT A * wrapT B) = p := ⟨_, rfl⟩
  rw [hz] at C3 C4
  rw [hp] at C6 C7
  clear hz hp
  obtain ⟨x, hx⟩ : ∃ x, wrapT A = x := ⟨_, rfl⟩
  obtain ⟨y, hy⟩ : ∃ y, wrapT B = y := ⟨_, rfl⟩
  rw [hx] at C1 C3 C5 C6 C8 CS xb q5 pm
  rw [hy] at C2 C3 C6 CS yb pm
  clear hx hy
  refine (C1.out _).mono ?_
  rintro e w' ⟨rfl, rfl⟩
  go_wp2_with fail
  refine (C2.out _).mono ?_
  rintro e w' ⟨rfl, rfl⟩
  go_wp2_with fail
  refine (CS.out _).mono ?_
  rintro e w' ⟨rfl, rfl⟩
  go_wp2_with fail
  refine (C3.out _).mono ?_
  rintro e w' ⟨rfl, rfl⟩
  go_wp2_with fail
  refine (C4.out _).mono ?_
  rintro e w' ⟨rfl, rfl⟩
  go_wp2_with fail
  refine (C5.out _).mono ?_
  rintro e w' ⟨rfl, rfl⟩
  go_wp2_with fail
  refine (C6.out _).mono ?_
  rintro e w' ⟨rfl, rfl⟩
  go_wp2_with fail
  refine (C7.out _).mono ?_
  rintro e w' ⟨rfl, rfl⟩
  go_wp2_with fail
  refine (C8.out _).mono ?_
  rintro e w' ⟨rfl, rfl⟩
  go_wp2_with fail
  go_ret
  exact ⟨rfl, (Below.refl _ _).alloc (Nat.le_refl _) _⟩

set_option maxHeartbeats 400000 in
theorem fnWrapped_walk {v : Value} {bs : List Int} (w : World) (h : Sb w v bs) :
    Calls Try.prog 3 #[v] w fun e w' => e = .returned (.bool true) ∧ Below w.heap.size w w' := by
  obtain ⟨a, cap, rfl, r⟩ := h
  by_cases hs : bs.length ≤ 1048576
  · exact fnWrapped_core a cap bs w ⟨a, cap, rfl, r⟩ hs
  · have b0 : bs.length ≤ 9223372036854775807 := by have := r.1; have := r.2.1; unfold maxLen at this; omega
    clear r
    go_enter Try.func3, Try.ntmps3
    go_wp2_with fail
    go_ret
    exact ⟨rfl, Below.refl _ _⟩

end Go.Proofs.Ythlpgpgfdfnofaa
