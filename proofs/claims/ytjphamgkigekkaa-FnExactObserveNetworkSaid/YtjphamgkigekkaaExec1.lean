/-
  What an instruction computes, in the program and in its model. No statement of the seat is proved here.
-/
import Derived.Test.YtjphamgkigekkaaActs
namespace Go.Proofs.Ytjphamgkigekkaa
open Go.RowKit

theorem rest_pos (n b : Int) (hb : 0 < b) : (n.tmod b + b).tmod b = n % b := by
  have h1 := Int.lt_tmod_of_pos n hb
  rw [Int.tmod_eq_emod_of_nonneg (by omega)]
  have h2 : n.tmod b + b * n.tdiv b = n := Int.tmod_add_mul_tdiv n b
  rw [Int.add_emod_right]
  conv => rhs; rw [← h2, Int.add_mul_emod_self_left]
theorem rest_ifpos (n b : Int) (hb : 0 < b) (h : ¬ n.tmod b < 0) : n.tmod b = n % b := by
  have h1 := Int.tmod_lt_of_pos n hb
  have h2 : n.tmod b + b * n.tdiv b = n := Int.tmod_add_mul_tdiv n b
  conv => rhs; rw [← h2, Int.add_mul_emod_self_left]
  exact (Int.emod_eq_of_lt (by omega) h1).symm
theorem rest_ifneg (n b : Int) (hb : 0 < b) (h : n.tmod b < 0) : n.tmod b + b = n % b := by
  have h1 := Int.lt_tmod_of_pos n hb
  have h2 : n.tmod b + b * n.tdiv b = n := Int.tmod_add_mul_tdiv n b
  conv => rhs; rw [← h2, Int.add_mul_emod_self_left]
  have := Int.add_emod_right (n.tmod b) b
  rw [← this]
  exact (Int.emod_eq_of_lt (by omega) (by omega)).symm
theorem restI_zero (n : Int) : restI n 0 = 0 := rfl
theorem restI_pos {n c : Int} (h : 0 < c) : restI n c = n % c := by unfold restI; rw [if_neg (by omega)]; rfl
theorem restI_neg {n c : Int} (h : c < 0) : restI n c = n % (-c) := by unfold restI; rw [if_neg (by omega), Int.emod_neg]; rfl

set_option maxHeartbeats 800000 in
theorem irem_any (n c : Int) (w : World) (hc : -999999 ≤ c ∧ c ≤ 999999) :
    Calls Try.prog 166 #[.int .i64 n, .int .i64 c] w fun e w' => e = .returned (.int .i64 (restI n c)) ∧ w = w' := by
  by_cases h0 : c = 0
  · subst h0
    rw [restI_zero]
    go_enter Try.func166, Try.ntmps166
    go_wp2
    go_ret
    exact ⟨rfl, rfl⟩
  · have d0 : (c == 0) = false := by simpa using h0
    by_cases h1 : c < 0
    · have d1 : decide (c < 0) = true := decide_eq_true h1
      obtain ⟨b, hb⟩ : ∃ b, b = -c := ⟨_, rfl⟩
      have e : c = -b := by omega
      subst e
      have hb0 : 0 < b := by omega
      have wn : wrap64 (- -b) = b := by rw [Int.neg_neg]; exact IntWalk.wrap64_in _ (by omega)
      have wn2 : wrap64 b = b := IntWalk.wrap64_in _ (by omega)
      have m1 := Int.lt_tmod_of_pos n hb0
      have m2 := Int.tmod_lt_of_pos n hb0
      have wa : wrap64 (n.tmod b + b) = n.tmod b + b := IntWalk.wrap64_in _ (by omega)
      have wt : wrap64 (n.tmod b) = n.tmod b := IntWalk.wrap64_in _ (by omega)
      have q0 : (b == 0) = false := by simp; omega
      have HE := Lib.hid (show restI n (-b) = (n.tmod b + b).tmod b by rw [restI_neg h1, Int.neg_neg, rest_pos n b hb0])
      rw [HE.out]
      have wz : wrap64 ((n.tmod b + b).tmod b) = (n.tmod b + b).tmod b := IntWalk.wrap64_in _ (by have := Int.lt_tmod_of_pos (n.tmod b + b) hb0; have := Int.tmod_lt_of_pos (n.tmod b + b) hb0; omega)
      clear hb h0 m1 m2
      go_enter Try.func166, Try.ntmps166
      go_wp2
      go_ret
      exact ⟨rfl, rfl⟩
    · have d1 : decide (c < 0) = false := decide_eq_false h1
      have hb0 : 0 < c := by omega
      have m1 := Int.lt_tmod_of_pos n hb0
      have m2 := Int.tmod_lt_of_pos n hb0
      have wa : wrap64 (n.tmod c + c) = n.tmod c + c := IntWalk.wrap64_in _ (by omega)
      have wt : wrap64 (n.tmod c) = n.tmod c := IntWalk.wrap64_in _ (by omega)
      have HE := Lib.hid (show restI n c = (n.tmod c + c).tmod c by rw [restI_pos hb0, rest_pos n c hb0])
      rw [HE.out]
      have wz : wrap64 ((n.tmod c + c).tmod c) = (n.tmod c + c).tmod c := IntWalk.wrap64_in _ (by have := Int.lt_tmod_of_pos (n.tmod c + c) hb0; have := Int.tmod_lt_of_pos (n.tmod c + c) hb0; omega)
      clear h0 m1 m2 h1
      go_enter Try.func166, Try.ntmps166
      go_wp2
      go_ret
      exact ⟨rfl, rfl⟩

set_option maxHeartbeats 800000 in
theorem srem_any (n c : Int) (w : World) (hc : -999999 ≤ c ∧ c ≤ 999999) :
    Calls Try.prog 161 #[.int .i64 n, .int .i64 c] w fun e w' => e = .returned (.int .i64 (restI n c)) ∧ w = w' := by
  have wn : wrap64 (-c) = -c := IntWalk.wrap64_in _ (by omega)
  by_cases h0 : c = 0
  · subst h0
    rw [restI_zero]
    go_enter Try.func161, Try.ntmps161
    go_wp2
    go_ret
    exact ⟨rfl, rfl⟩
  · by_cases h1 : 0 < c
    · have hlt : -c < c := by omega
      obtain ⟨b, hb⟩ : ∃ b, b = c := ⟨_, rfl⟩
      subst hb
      have hE : restI n b = n % b := restI_pos h1
      have q0 : (b == 0) = false := by simp; omega
      have m1 := Int.lt_tmod_of_pos n h1
      have m2 := Int.tmod_lt_of_pos n h1
      have wt : wrap64 (n.tmod b) = n.tmod b := IntWalk.wrap64_in _ (by omega)
      by_cases h2 : n.tmod b < 0
      · have d2 : decide (n.tmod b < 0) = true := decide_eq_true h2
        rw [hE, ← rest_ifneg n b h1 h2]
        have wa : wrap64 (n.tmod b + b) = n.tmod b + b := IntWalk.wrap64_in _ (by omega)
        have WA := Lib.hid wa
        clear hE h0 m1 m2 h2
        go_enter Try.func161, Try.ntmps161
        go_wp2
        go_ret
        first | exact ⟨rfl, rfl⟩ | exact ⟨congrArg (fun z => Ending.returned (.int .i64 z)) WA.out, rfl⟩
      · have d2 : decide (n.tmod b < 0) = false := decide_eq_false h2
        rw [hE, ← rest_ifpos n b h1 h2]
        clear hE h0 m1 m2 h2
        go_enter Try.func161, Try.ntmps161
        go_wp2
        go_ret
        exact ⟨rfl, rfl⟩
    · obtain ⟨b, hb⟩ : ∃ b, b = -c := ⟨_, rfl⟩
      have e : c = -b := by omega
      subst e
      have h1 : 0 < b := by omega
      have hlt : -b < b := by omega
      have wm : wrap64 (- -b) = b := by rw [Int.neg_neg]; exact IntWalk.wrap64_in _ (by omega)
      have wm2 : wrap64 b = b := IntWalk.wrap64_in _ (by omega)
      have hE : restI n (-b) = n % b := by rw [restI_neg (by omega), Int.neg_neg]
      clear hb
      have q0 : (b == 0) = false := by simp; omega
      have m1 := Int.lt_tmod_of_pos n h1
      have m2 := Int.tmod_lt_of_pos n h1
      have wt : wrap64 (n.tmod b) = n.tmod b := IntWalk.wrap64_in _ (by omega)
      by_cases h2 : n.tmod b < 0
      · have d2 : decide (n.tmod b < 0) = true := decide_eq_true h2
        rw [hE, ← rest_ifneg n b h1 h2]
        have wa : wrap64 (n.tmod b + b) = n.tmod b + b := IntWalk.wrap64_in _ (by omega)
        have WA := Lib.hid wa
        clear hE h0 m1 m2 h2
        go_enter Try.func161, Try.ntmps161
        go_wp2
        go_ret
        first | exact ⟨rfl, rfl⟩ | exact ⟨congrArg (fun z => Ending.returned (.int .i64 z)) WA.out, rfl⟩
      · have d2 : decide (n.tmod b < 0) = false := decide_eq_false h2
        rw [hE, ← rest_ifpos n b h1 h2]
        clear hE h0 m1 m2 h2
        go_enter Try.func161, Try.ntmps161
        go_wp2
        go_ret
        exact ⟨rfl, rfl⟩


theorem mul_in {x y : Int} (hx : -999999 ≤ x ∧ x ≤ 999999) (hy : -999999 ≤ y ∧ y ≤ 999999) : -9223372036854775808 ≤ x * y ∧ x * y ≤ 9223372036854775807 := by
  have h1 : x * y ≤ 999999 * 999999 := by
    have := Int.mul_le_mul_of_natAbs_le (x := x) (y := y) (s := 999999) (t := 999999) (by omega) (by omega)
    omega
  have h2 : (-x) * y ≤ 999999 * 999999 := by
    have := Int.mul_le_mul_of_natAbs_le (x := -x) (y := y) (s := 999999) (t := 999999) (by omega) (by omega)
    omega
  rw [Int.neg_mul] at h2
  omega


set_option maxRecDepth 100000 in
set_option maxHeartbeats 4000000 in
theorem icomp_4 (a b c : Int) (v : Value) (regs : List Int) (w : World) (h : Sl w v regs) (hlen : regs.length = 4) (hs : isS regs = true) (hb : 0 ≤ b ∧ b ≤ 3) (hcc : 0 ≤ c ∧ c ≤ 3) :
    Calls Try.prog 163 #[.agg #[.int .i64 4, .int .i64 a, .int .i64 b, .int .i64 c], v] w fun e w' => e = .returned (.int .i64 (wrapT (rg regs b + rg regs c))) ∧ Below w.heap.size w w' := by
  obtain ⟨v0, cap, rfl, _, _, _, hcell⟩ := h
  have hl4 := hlen
  rw [hlen] at hcell ⊢
  obtain ⟨bb, off, rfl, hbl, hc⟩ : ∃ bb off, v0 = some ⟨bb, off, none⟩ ∧ bb < w.heap.size ∧ ∀ i, i < 4 → w.cell? ⟨bb, off + i, none⟩ = some (.int .i64 (regs.getD i 0)) := by
    rcases hcell with rfl | h
    · simp at hlen
    · exact h
  obtain ⟨k1, hk1⟩ : ∃ k : Nat, b = k := ⟨(b).toNat, by omega⟩
  subst hk1
  have c1 := hc k1 (by omega)
  have t1 := tok_t (rg_tok hs (k1 : Int))
  obtain ⟨r1, hr1⟩ : ∃ z, z = rg regs (k1 : Int) := ⟨_, rfl⟩
  rw [show regs.getD k1 0 = rg regs (k1 : Int) by unfold rg; rw [Int.toNat_natCast], ← hr1] at c1
  rw [← hr1] at t1
  obtain ⟨k2, hk2⟩ : ∃ k : Nat, c = k := ⟨(c).toNat, by omega⟩
  subst hk2
  have c2 := hc k2 (by omega)
  have t2 := tok_t (rg_tok hs (k2 : Int))
  obtain ⟨r2, hr2⟩ : ∃ z, z = rg regs (k2 : Int) := ⟨_, rfl⟩
  rw [show regs.getD k2 0 = rg regs (k2 : Int) by unfold rg; rw [Int.toNat_natCast], ← hr2] at c2
  rw [← hr2] at t2
  rw [← hr1, ← hr2]
  clear hr1 hr2 hc hlen hs hl4
  have HB := Lib.hid ((Below.refl w.heap.size w).al (.cells #[.int .i64 4, .int .i64 a, .int .i64 k1, .int .i64 k2] 156))
  have wz : wrap64 (r1 + r2) = r1 + r2 := IntWalk.wrap64_in _ (by omega)
  clear t1 t2
  go_enter Try.func163, Try.ntmps163
  go_wp2_with fail
  go_quiet ((go_at_call 165; exact Calls.quiet_of_same ((iwrap_any _ _).mono fun _ _ hh => ⟨hh.1, hh.2.symm⟩)))
  go_wp2_with fail
  go_ret
  exact ⟨rfl, Below.toDraw HB.out _⟩


set_option maxRecDepth 100000 in
set_option maxHeartbeats 4000000 in
theorem icomp_5 (a b c : Int) (v : Value) (regs : List Int) (w : World) (h : Sl w v regs) (hlen : regs.length = 4) (hs : isS regs = true) (hb : 0 ≤ b ∧ b ≤ 3) (hcc : 0 ≤ c ∧ c ≤ 3) :
    Calls Try.prog 163 #[.agg #[.int .i64 5, .int .i64 a, .int .i64 b, .int .i64 c], v] w fun e w' => e = .returned (.int .i64 (wrapT (rg regs b - rg regs c))) ∧ Below w.heap.size w w' := by
  obtain ⟨v0, cap, rfl, _, _, _, hcell⟩ := h
  have hl4 := hlen
  rw [hlen] at hcell ⊢
  obtain ⟨bb, off, rfl, hbl, hc⟩ : ∃ bb off, v0 = some ⟨bb, off, none⟩ ∧ bb < w.heap.size ∧ ∀ i, i < 4 → w.cell? ⟨bb, off + i, none⟩ = some (.int .i64 (regs.getD i 0)) := by
    rcases hcell with rfl | h
    · simp at hlen
    · exact h
  obtain ⟨k1, hk1⟩ : ∃ k : Nat, b = k := ⟨(b).toNat, by omega⟩
  subst hk1
  have c1 := hc k1 (by omega)
  have t1 := tok_t (rg_tok hs (k1 : Int))
  obtain ⟨r1, hr1⟩ : ∃ z, z = rg regs (k1 : Int) := ⟨_, rfl⟩
  rw [show regs.getD k1 0 = rg regs (k1 : Int) by unfold rg; rw [Int.toNat_natCast], ← hr1] at c1
  rw [← hr1] at t1
  obtain ⟨k2, hk2⟩ : ∃ k : Nat, c = k := ⟨(c).toNat, by omega⟩
  subst hk2
  have c2 := hc k2 (by omega)
  have t2 := tok_t (rg_tok hs (k2 : Int))
  obtain ⟨r2, hr2⟩ : ∃ z, z = rg regs (k2 : Int) := ⟨_, rfl⟩
  rw [show regs.getD k2 0 = rg regs (k2 : Int) by unfold rg; rw [Int.toNat_natCast], ← hr2] at c2
  rw [← hr2] at t2
  rw [← hr1, ← hr2]
  clear hr1 hr2 hc hlen hs hl4
  have HB := Lib.hid ((Below.refl w.heap.size w).al (.cells #[.int .i64 5, .int .i64 a, .int .i64 k1, .int .i64 k2] 156))
  have wz : wrap64 (r1 - r2) = r1 - r2 := IntWalk.wrap64_in _ (by omega)
  clear t1 t2
  go_enter Try.func163, Try.ntmps163
  go_wp2_with fail
  go_quiet ((go_at_call 165; exact Calls.quiet_of_same ((iwrap_any _ _).mono fun _ _ hh => ⟨hh.1, hh.2.symm⟩)))
  go_wp2_with fail
  go_ret
  exact ⟨rfl, Below.toDraw HB.out _⟩


set_option maxRecDepth 100000 in
set_option maxHeartbeats 4000000 in
theorem icomp_6 (a b c : Int) (v : Value) (regs : List Int) (w : World) (h : Sl w v regs) (hlen : regs.length = 4) (hs : isS regs = true) (hb : 0 ≤ b ∧ b ≤ 3) (hcc : 0 ≤ c ∧ c ≤ 3) :
    Calls Try.prog 163 #[.agg #[.int .i64 6, .int .i64 a, .int .i64 b, .int .i64 c], v] w fun e w' => e = .returned (.int .i64 (wrapT (rg regs b * rg regs c))) ∧ Below w.heap.size w w' := by
  obtain ⟨v0, cap, rfl, _, _, _, hcell⟩ := h
  have hl4 := hlen
  rw [hlen] at hcell ⊢
  obtain ⟨bb, off, rfl, hbl, hc⟩ : ∃ bb off, v0 = some ⟨bb, off, none⟩ ∧ bb < w.heap.size ∧ ∀ i, i < 4 → w.cell? ⟨bb, off + i, none⟩ = some (.int .i64 (regs.getD i 0)) := by
    rcases hcell with rfl | h
    · simp at hlen
    · exact h
  obtain ⟨k1, hk1⟩ : ∃ k : Nat, b = k := ⟨(b).toNat, by omega⟩
  subst hk1
  have c1 := hc k1 (by omega)
  have t1 := tok_t (rg_tok hs (k1 : Int))
  obtain ⟨r1, hr1⟩ : ∃ z, z = rg regs (k1 : Int) := ⟨_, rfl⟩
  rw [show regs.getD k1 0 = rg regs (k1 : Int) by unfold rg; rw [Int.toNat_natCast], ← hr1] at c1
  rw [← hr1] at t1
  obtain ⟨k2, hk2⟩ : ∃ k : Nat, c = k := ⟨(c).toNat, by omega⟩
  subst hk2
  have c2 := hc k2 (by omega)
  have t2 := tok_t (rg_tok hs (k2 : Int))
  obtain ⟨r2, hr2⟩ : ∃ z, z = rg regs (k2 : Int) := ⟨_, rfl⟩
  rw [show regs.getD k2 0 = rg regs (k2 : Int) by unfold rg; rw [Int.toNat_natCast], ← hr2] at c2
  rw [← hr2] at t2
  rw [← hr1, ← hr2]
  clear hr1 hr2 hc hlen hs hl4
  have HB := Lib.hid ((Below.refl w.heap.size w).al (.cells #[.int .i64 6, .int .i64 a, .int .i64 k1, .int .i64 k2] 156))
  have wz : wrap64 (r1 * r2) = r1 * r2 := IntWalk.wrap64_in _ (mul_in t1 t2)
  clear t1 t2
  go_enter Try.func163, Try.ntmps163
  go_wp2_with fail
  go_quiet ((go_at_call 165; exact Calls.quiet_of_same ((iwrap_any _ _).mono fun _ _ hh => ⟨hh.1, hh.2.symm⟩)))
  go_wp2_with fail
  go_ret
  exact ⟨rfl, Below.toDraw HB.out _⟩


set_option maxRecDepth 100000 in
set_option maxHeartbeats 4000000 in
theorem icomp_7 (a b c : Int) (v : Value) (regs : List Int) (w : World) (h : Sl w v regs) (hlen : regs.length = 4) (hs : isS regs = true) (hb : 0 ≤ b ∧ b ≤ 3) (hcc : 0 ≤ c ∧ c ≤ 3) :
    Calls Try.prog 163 #[.agg #[.int .i64 7, .int .i64 a, .int .i64 b, .int .i64 c], v] w fun e w' => e = .returned (.int .i64 (restI (rg regs b) (rg regs c))) ∧ Below w.heap.size w w' := by
  obtain ⟨v0, cap, rfl, _, _, _, hcell⟩ := h
  have hl4 := hlen
  rw [hlen] at hcell ⊢
  obtain ⟨bb, off, rfl, hbl, hc⟩ : ∃ bb off, v0 = some ⟨bb, off, none⟩ ∧ bb < w.heap.size ∧ ∀ i, i < 4 → w.cell? ⟨bb, off + i, none⟩ = some (.int .i64 (regs.getD i 0)) := by
    rcases hcell with rfl | h
    · simp at hlen
    · exact h
  obtain ⟨k1, hk1⟩ : ∃ k : Nat, b = k := ⟨(b).toNat, by omega⟩
  subst hk1
  have c1 := hc k1 (by omega)
  have t1 := tok_t (rg_tok hs (k1 : Int))
  obtain ⟨r1, hr1⟩ : ∃ z, z = rg regs (k1 : Int) := ⟨_, rfl⟩
  rw [show regs.getD k1 0 = rg regs (k1 : Int) by unfold rg; rw [Int.toNat_natCast], ← hr1] at c1
  rw [← hr1] at t1
  obtain ⟨k2, hk2⟩ : ∃ k : Nat, c = k := ⟨(c).toNat, by omega⟩
  subst hk2
  have c2 := hc k2 (by omega)
  have t2 := tok_t (rg_tok hs (k2 : Int))
  obtain ⟨r2, hr2⟩ : ∃ z, z = rg regs (k2 : Int) := ⟨_, rfl⟩
  rw [show regs.getD k2 0 = rg regs (k2 : Int) by unfold rg; rw [Int.toNat_natCast], ← hr2] at c2
  rw [← hr2] at t2
  rw [← hr1, ← hr2]
  clear hr1 hr2 hc hlen hs hl4
  have HB := Lib.hid ((Below.refl w.heap.size w).al (.cells #[.int .i64 7, .int .i64 a, .int .i64 k1, .int .i64 k2] 156))
  have T2 := Lib.hid t2
  clear t1 t2
  go_enter Try.func163, Try.ntmps163
  go_wp2_with fail
  go_quiet ((go_at_call 166; exact Calls.quiet_of_same ((irem_any _ _ _ T2.out).mono fun _ _ hh => ⟨hh.1, hh.2.symm⟩)))
  go_wp2_with fail
  go_ret
  exact ⟨rfl, Below.toDraw HB.out _⟩


set_option maxRecDepth 100000 in
set_option maxHeartbeats 4000000 in
theorem sval_4 (a b c : Int) (v : Value) (regs : List Int) (t : Int) (w : World) (h : Sl w v regs) (hlen : regs.length = 4) (hs : isS regs = true) (hb : 0 ≤ b ∧ b ≤ 3) (hcc : 0 ≤ c ∧ c ≤ 3) :
    Calls Try.prog 153 #[.agg #[.int .i64 4, .int .i64 a, .int .i64 b, .int .i64 c], v, .int .i64 t] w fun e w' => e = .returned (.int .i64 (wrapT (rg regs b + rg regs c))) ∧ Below w.heap.size w w' := by
  obtain ⟨v0, cap, rfl, _, _, _, hcell⟩ := h
  have hl4 := hlen
  rw [hlen] at hcell ⊢
  obtain ⟨bb, off, rfl, hbl, hc⟩ : ∃ bb off, v0 = some ⟨bb, off, none⟩ ∧ bb < w.heap.size ∧ ∀ i, i < 4 → w.cell? ⟨bb, off + i, none⟩ = some (.int .i64 (regs.getD i 0)) := by
    rcases hcell with rfl | h
    · simp at hlen
    · exact h
  obtain ⟨k1, hk1⟩ : ∃ k : Nat, b = k := ⟨(b).toNat, by omega⟩
  subst hk1
  have c1 := hc k1 (by omega)
  have t1 := tok_t (rg_tok hs (k1 : Int))
  obtain ⟨r1, hr1⟩ : ∃ z, z = rg regs (k1 : Int) := ⟨_, rfl⟩
  rw [show regs.getD k1 0 = rg regs (k1 : Int) by unfold rg; rw [Int.toNat_natCast], ← hr1] at c1
  rw [← hr1] at t1
  obtain ⟨k2, hk2⟩ : ∃ k : Nat, c = k := ⟨(c).toNat, by omega⟩
  subst hk2
  have c2 := hc k2 (by omega)
  have t2 := tok_t (rg_tok hs (k2 : Int))
  obtain ⟨r2, hr2⟩ : ∃ z, z = rg regs (k2 : Int) := ⟨_, rfl⟩
  rw [show regs.getD k2 0 = rg regs (k2 : Int) by unfold rg; rw [Int.toNat_natCast], ← hr2] at c2
  rw [← hr2] at t2
  rw [← hr1, ← hr2]
  clear hr1 hr2 hc hlen hs hl4
  have HB := Lib.hid ((Below.refl w.heap.size w).al (.cells #[.int .i64 4, .int .i64 a, .int .i64 k1, .int .i64 k2] 156))
  have wz : wrap64 (r1 + r2) = r1 + r2 := IntWalk.wrap64_in _ (by omega)
  clear t1 t2
  go_enter Try.func153, Try.ntmps153
  go_wp2_with fail
  go_quiet ((go_at_call 160; exact Calls.quiet_of_same ((swrap_any _ _).mono fun _ _ hh => ⟨hh.1, hh.2.symm⟩)))
  go_wp2_with fail
  go_ret
  exact ⟨rfl, Below.toDraw HB.out _⟩


set_option maxRecDepth 100000 in
set_option maxHeartbeats 4000000 in
theorem sval_5 (a b c : Int) (v : Value) (regs : List Int) (t : Int) (w : World) (h : Sl w v regs) (hlen : regs.length = 4) (hs : isS regs = true) (hb : 0 ≤ b ∧ b ≤ 3) (hcc : 0 ≤ c ∧ c ≤ 3) :
    Calls Try.prog 153 #[.agg #[.int .i64 5, .int .i64 a, .int .i64 b, .int .i64 c], v, .int .i64 t] w fun e w' => e = .returned (.int .i64 (wrapT (rg regs b - rg regs c))) ∧ Below w.heap.size w w' := by
  obtain ⟨v0, cap, rfl, _, _, _, hcell⟩ := h
  have hl4 := hlen
  rw [hlen] at hcell ⊢
  obtain ⟨bb, off, rfl, hbl, hc⟩ : ∃ bb off, v0 = some ⟨bb, off, none⟩ ∧ bb < w.heap.size ∧ ∀ i, i < 4 → w.cell? ⟨bb, off + i, none⟩ = some (.int .i64 (regs.getD i 0)) := by
    rcases hcell with rfl | h
    · simp at hlen
    · exact h
  obtain ⟨k1, hk1⟩ : ∃ k : Nat, b = k := ⟨(b).toNat, by omega⟩
  subst hk1
  have c1 := hc k1 (by omega)
  have t1 := tok_t (rg_tok hs (k1 : Int))
  obtain ⟨r1, hr1⟩ : ∃ z, z = rg regs (k1 : Int) := ⟨_, rfl⟩
  rw [show regs.getD k1 0 = rg regs (k1 : Int) by unfold rg; rw [Int.toNat_natCast], ← hr1] at c1
  rw [← hr1] at t1
  obtain ⟨k2, hk2⟩ : ∃ k : Nat, c = k := ⟨(c).toNat, by omega⟩
  subst hk2
  have c2 := hc k2 (by omega)
  have t2 := tok_t (rg_tok hs (k2 : Int))
  obtain ⟨r2, hr2⟩ : ∃ z, z = rg regs (k2 : Int) := ⟨_, rfl⟩
  rw [show regs.getD k2 0 = rg regs (k2 : Int) by unfold rg; rw [Int.toNat_natCast], ← hr2] at c2
  rw [← hr2] at t2
  rw [← hr1, ← hr2]
  clear hr1 hr2 hc hlen hs hl4
  have HB := Lib.hid ((Below.refl w.heap.size w).al (.cells #[.int .i64 5, .int .i64 a, .int .i64 k1, .int .i64 k2] 156))
  have wz : wrap64 (r1 - r2) = r1 - r2 := IntWalk.wrap64_in _ (by omega)
  clear t1 t2
  go_enter Try.func153, Try.ntmps153
  go_wp2_with fail
  go_quiet ((go_at_call 160; exact Calls.quiet_of_same ((swrap_any _ _).mono fun _ _ hh => ⟨hh.1, hh.2.symm⟩)))
  go_wp2_with fail
  go_ret
  exact ⟨rfl, Below.toDraw HB.out _⟩


set_option maxRecDepth 100000 in
set_option maxHeartbeats 4000000 in
theorem sval_6 (a b c : Int) (v : Value) (regs : List Int) (t : Int) (w : World) (h : Sl w v regs) (hlen : regs.length = 4) (hs : isS regs = true) (hb : 0 ≤ b ∧ b ≤ 3) (hcc : 0 ≤ c ∧ c ≤ 3) :
    Calls Try.prog 153 #[.agg #[.int .i64 6, .int .i64 a, .int .i64 b, .int .i64 c], v, .int .i64 t] w fun e w' => e = .returned (.int .i64 (wrapT (rg regs b * rg regs c))) ∧ Below w.heap.size w w' := by
  obtain ⟨v0, cap, rfl, _, _, _, hcell⟩ := h
  have hl4 := hlen
  rw [hlen] at hcell ⊢
  obtain ⟨bb, off, rfl, hbl, hc⟩ : ∃ bb off, v0 = some ⟨bb, off, none⟩ ∧ bb < w.heap.size ∧ ∀ i, i < 4 → w.cell? ⟨bb, off + i, none⟩ = some (.int .i64 (regs.getD i 0)) := by
    rcases hcell with rfl | h
    · simp at hlen
    · exact h
  obtain ⟨k1, hk1⟩ : ∃ k : Nat, b = k := ⟨(b).toNat, by omega⟩
  subst hk1
  have c1 := hc k1 (by omega)
  have t1 := tok_t (rg_tok hs (k1 : Int))
  obtain ⟨r1, hr1⟩ : ∃ z, z = rg regs (k1 : Int) := ⟨_, rfl⟩
  rw [show regs.getD k1 0 = rg regs (k1 : Int) by unfold rg; rw [Int.toNat_natCast], ← hr1] at c1
  rw [← hr1] at t1
  obtain ⟨k2, hk2⟩ : ∃ k : Nat, c = k := ⟨(c).toNat, by omega⟩
  subst hk2
  have c2 := hc k2 (by omega)
  have t2 := tok_t (rg_tok hs (k2 : Int))
  obtain ⟨r2, hr2⟩ : ∃ z, z = rg regs (k2 : Int) := ⟨_, rfl⟩
  rw [show regs.getD k2 0 = rg regs (k2 : Int) by unfold rg; rw [Int.toNat_natCast], ← hr2] at c2
  rw [← hr2] at t2
  rw [← hr1, ← hr2]
  clear hr1 hr2 hc hlen hs hl4
  have HB := Lib.hid ((Below.refl w.heap.size w).al (.cells #[.int .i64 6, .int .i64 a, .int .i64 k1, .int .i64 k2] 156))
  have wz : wrap64 (r1 * r2) = r1 * r2 := IntWalk.wrap64_in _ (mul_in t1 t2)
  clear t1 t2
  go_enter Try.func153, Try.ntmps153
  go_wp2_with fail
  go_quiet ((go_at_call 160; exact Calls.quiet_of_same ((swrap_any _ _).mono fun _ _ hh => ⟨hh.1, hh.2.symm⟩)))
  go_wp2_with fail
  go_ret
  exact ⟨rfl, Below.toDraw HB.out _⟩


set_option maxRecDepth 100000 in
set_option maxHeartbeats 4000000 in
theorem sval_7 (a b c : Int) (v : Value) (regs : List Int) (t : Int) (w : World) (h : Sl w v regs) (hlen : regs.length = 4) (hs : isS regs = true) (hb : 0 ≤ b ∧ b ≤ 3) (hcc : 0 ≤ c ∧ c ≤ 3) :
    Calls Try.prog 153 #[.agg #[.int .i64 7, .int .i64 a, .int .i64 b, .int .i64 c], v, .int .i64 t] w fun e w' => e = .returned (.int .i64 (restI (rg regs b) (rg regs c))) ∧ Below w.heap.size w w' := by
  obtain ⟨v0, cap, rfl, _, _, _, hcell⟩ := h
  have hl4 := hlen
  rw [hlen] at hcell ⊢
  obtain ⟨bb, off, rfl, hbl, hc⟩ : ∃ bb off, v0 = some ⟨bb, off, none⟩ ∧ bb < w.heap.size ∧ ∀ i, i < 4 → w.cell? ⟨bb, off + i, none⟩ = some (.int .i64 (regs.getD i 0)) := by
    rcases hcell with rfl | h
    · simp at hlen
    · exact h
  obtain ⟨k1, hk1⟩ : ∃ k : Nat, b = k := ⟨(b).toNat, by omega⟩
  subst hk1
  have c1 := hc k1 (by omega)
  have t1 := tok_t (rg_tok hs (k1 : Int))
  obtain ⟨r1, hr1⟩ : ∃ z, z = rg regs (k1 : Int) := ⟨_, rfl⟩
  rw [show regs.getD k1 0 = rg regs (k1 : Int) by unfold rg; rw [Int.toNat_natCast], ← hr1] at c1
  rw [← hr1] at t1
  obtain ⟨k2, hk2⟩ : ∃ k : Nat, c = k := ⟨(c).toNat, by omega⟩
  subst hk2
  have c2 := hc k2 (by omega)
  have t2 := tok_t (rg_tok hs (k2 : Int))
  obtain ⟨r2, hr2⟩ : ∃ z, z = rg regs (k2 : Int) := ⟨_, rfl⟩
  rw [show regs.getD k2 0 = rg regs (k2 : Int) by unfold rg; rw [Int.toNat_natCast], ← hr2] at c2
  rw [← hr2] at t2
  rw [← hr1, ← hr2]
  clear hr1 hr2 hc hlen hs hl4
  have HB := Lib.hid ((Below.refl w.heap.size w).al (.cells #[.int .i64 7, .int .i64 a, .int .i64 k1, .int .i64 k2] 156))
  have T2 := Lib.hid t2
  clear t1 t2
  go_enter Try.func153, Try.ntmps153
  go_wp2_with fail
  go_quiet ((go_at_call 161; exact Calls.quiet_of_same ((srem_any _ _ _ T2.out).mono fun _ _ hh => ⟨hh.1, hh.2.symm⟩)))
  go_wp2_with fail
  go_ret
  exact ⟨rfl, Below.toDraw HB.out _⟩


end Go.Proofs.Ytjphamgkigekkaa
