/-
  What the model's own reading of a number answers. No statement of the seat is proved here.
-/
import Derived.Test.YthlpgpgfdfnofabDoorNumMath
namespace Go.Proofs.YthlpgpgfdfnofabDoor
open Go.RowKit
open Go.Lib (decDigits itoa)

theorem s_take (s : ByteArray) (k : Nat) (h : k < s.size) : s.data.toList.take (k + 1) = s.data.toList.take k ++ [s[k]] := by
  rw [List.take_succ_eq_append_getElem (by simpa using h)]; rfl
theorem dval_lt {l : List UInt8} (h : l.all isDig = true) : dval l < 10 ^ l.length := by
  induction hn : l.length generalizing l with
  | zero => rw [List.eq_nil_of_length_eq_zero hn]; simp [dval]
  | succ n ih =>
    rcases List.eq_nil_or_concat l with e | ⟨l', c, e⟩
    · rw [e] at hn; simp at hn
    · rw [List.concat_eq_append] at e
      subst e
      rw [List.all_append, Bool.and_eq_true] at h
      have hc := isDig_bd (show isDig c = true by simpa using h.2)
      have := ih h.1 (by simp at hn; omega)
      rw [dval_snoc, Nat.pow_succ]
      omega
def rdI (l : List UInt8) : Int := ((rdPos l).getD 0 : Nat)
theorem rdPos_len0 {l : List UInt8} (h : l.length < 1) : rdPos l = none := by
  unfold rdPos; rw [if_neg (by omega)]
theorem rdPos_len9 {l : List UInt8} (h : 9 < l.length) : rdPos l = none := by
  unfold rdPos; rw [if_neg (by omega)]
theorem rdPos_lead {l : List UInt8} (h : leads l = true) : rdPos l = none := by
  unfold rdPos; rw [if_neg (by rw [h]; simp)]
theorem rdPos_bad {l : List UInt8} (h : l.all isDig = false) : rdPos l = none := by
  unfold rdPos; rw [if_neg (by rw [h]; simp)]
theorem rdPos_good {l : List UInt8} (h1 : 1 ≤ l.length) (h2 : l.length ≤ 9) (h3 : leads l = false) (h4 : l.all isDig = true) : rdPos l = some (dval l) := by
  unfold rdPos; rw [if_pos ⟨h1, h2, h3, h4⟩]
theorem s_len (s : ByteArray) : s.data.toList.length = s.size := rfl
theorem s_head (s : ByteArray) (h : 0 < s.size) : s.data.toList.head? = some s[0] := by
  have := s_take s 0 h
  cases hl : s.data.toList with
  | nil => rw [hl] at this; simp at this
  | cons a r =>
    rw [hl] at this
    simp only [List.take_succ_cons, List.take_zero, List.nil_append, List.cons.injEq, and_true] at this
    rw [this]; rfl
theorem s_leads (s : ByteArray) (h : 0 < s.size) : leads s.data.toList = (decide (s[0].toNat = 48) && decide (1 < s.size)) := by
  unfold leads
  rw [s_head s h, s_len]
  congr 1
  rw [Bool.eq_iff_iff]
  simp only [beq_iff_eq, Option.some.injEq, decide_eq_true_eq]
  exact ⟨fun e => by rw [e]; rfl, fun e => UInt8.toNat_inj.1 (by rw [e]; rfl)⟩
theorem all_bad (s : ByteArray) (k : Nat) (h : k < s.size) (hb : isDig s[k] = false) : s.data.toList.all isDig = false := by
  rw [List.all_eq_false]
  exact ⟨s[k], by rw [show s[k] = s.data.toList[k]'(by simpa using h) from rfl]; exact List.getElem_mem _, by simp [hb]⟩
theorem all_snoc {l l' : List UInt8} {c : UInt8} (h : Hid (l.all isDig = true)) (hd : Hid (isDig c = true)) (e : Hid (l' = l ++ [c])) : Hid (l'.all isDig = true) :=
  Lib.hid (by rw [e.out, List.all_append, h.out]; simp [hd.out])
theorem ret_pair {a b : Int} {c d : Bool} (h : a = b) (k : c = d) : Ending.returned (.tuple #[.int .i64 a, .bool c]) = .returned (.tuple #[.int .i64 b, .bool d]) := by rw [h, k]

set_option maxRecDepth 100000 in
set_option maxHeartbeats 3200000 in
theorem readLoop (s : ByteArray) (w : World) (h0 : 0 < s.size) (h9 : s.size ≤ 9) (hl : leads s.data.toList = false) (hF : s.size ≤ 1 ∨ ((s[0].toNat : Int) == 45) = false) :
    Calls Tryd.prog 19 #[.string s] w fun e w' => e = .returned (.tuple #[.int .i64 (rdI s.data.toList), .bool (rdPos s.data.toList).isSome]) ∧ w = w' := by
  have hld := s_leads s h0
  rw [hl] at hld
  have H0 := Lib.hid (show 0 < s.size from h0)
  have HL := Lib.hid hl
  have hsz : ¬ (s.size : Int) < 1 := by omega
  by_cases h1 : 1 < s.size
  · have hz : ¬ (s[0].toNat : Int) = 48 := by
      intro e
      have hh : leads s.data.toList = true := by
        rw [s_leads s h0]
        simp only [Bool.and_eq_true, decide_eq_true_eq]
        exact ⟨by omega, h1⟩
      rw [hh] at hl
      cases hl
    have h45 : ¬ (s[0].toNat : Int) = 45 := by
      rcases hF with h | h
      · omega
      · exact of_decide_eq_false h
    have d1 : decide ((1 : Int) < (s.size : Int)) = true := decide_eq_true (by omega)
    have d2 : decide ((9 : Int) < (s.size : Int)) = false := decide_eq_false (by omega)
    have d3 : decide ((s.size : Int) < 1) = false := decide_eq_false (by omega)
    clear hld hl hF
    go_enter Tryd.func19, Tryd.ntmps19
    go_wp2_with fail
    go_loop [6, 7] (fun t i => ∃ k : Nat, k ≤ s.size ∧ i = .int .i64 k ∧ t = .int .i64 (dval (s.data.toList.take k) : Nat) ∧ Hid ((s.data.toList.take k).all isDig = true)) (fun _ i => s.size - (intOf i).toNat)
    case atStart => exact ⟨0, Nat.zero_le _, rfl, by simp [dval], by simp [Hid]⟩
    case round =>
      obtain ⟨k, hk, rfl, rfl, hA⟩ := hrel
      have hlk : (s.data.toList.take k).length = k := by rw [List.length_take, s_len]; omega
      by_cases hlt : k < s.size
      · have hv : dval (s.data.toList.take k) < 100000000 := by
          have h1 := dval_lt hA.out
          have h2 : 10 ^ (s.data.toList.take k).length ≤ 10 ^ 8 := Nat.pow_le_pow_right (by omega) (by omega)
          have h3 : (10 : Nat) ^ 8 = 100000000 := by decide
          omega
        have ES := Lib.hid (s_take s k hlt)
        obtain ⟨V, hV⟩ : ∃ V, dval (s.data.toList.take k) = V := ⟨_, rfl⟩
        rw [hV] at hv ⊢
        have HV := Lib.hid hV
        clear hV hlk
        by_cases hdg : isDig s[k] = true
        · have hb := isDig_bd hdg
          have g1 : ¬ (s[k].toNat : Int) < 48 := by omega
          have g2 : ¬ (57 : Int) < (s[k].toNat : Int) := by omega
          have HD := Lib.hid hdg
          clear hdg
          go_wp2_with fail
          go_round
          case rel => exact ⟨k + 1, by omega, by go_num, by rw [ES.out, dval_snoc, HV.out]; congr 1; omega, all_snoc hA HD ES⟩
          case measure => simp [intOf]; omega
        · have HD := Lib.hid (all_bad s k hlt (by simpa using hdg))
          by_cases g1 : (s[k].toNat : Int) < 48
          · clear hdg
            go_wp2_with fail
            go_ret2
            exact ⟨by unfold rdI; rw [rdPos_bad HD.out]; rfl, rfl⟩
          · have g2 : (57 : Int) < (s[k].toNat : Int) := by
              have : ¬ (48 ≤ s[k].toNat ∧ s[k].toNat ≤ 57) := fun h => hdg (decide_eq_true h)
              omega
            clear hdg
            go_wp2_with fail
            go_ret2
            exact ⟨by unfold rdI; rw [rdPos_bad HD.out]; rfl, rfl⟩
      · obtain rfl : k = s.size := by omega
        have e : s.data.toList.take s.size = s.data.toList := List.take_of_length_le (by rw [s_len]; exact Nat.le_refl _)
        rw [e] at hA ⊢
        clear e
        have HG := Lib.hid (rdPos_good (by rw [s_len]; exact H0.out) (by rw [s_len]; exact h9) HL.out hA.out)
        go_wp2_with fail
        go_ret2
        exact ⟨by unfold rdI; rw [HG.out]; rfl, rfl⟩
  · have d1 : decide ((1 : Int) < (s.size : Int)) = false := decide_eq_false (by omega)
    have d2 : decide ((9 : Int) < (s.size : Int)) = false := decide_eq_false (by omega)
    have d3 : decide ((s.size : Int) < 1) = false := decide_eq_false (by omega)
    clear hld hl hF
    by_cases hz : (s[0].toNat : Int) = 48
    · go_enter Tryd.func19, Tryd.ntmps19
      go_wp2_with fail
      go_loop [6, 7] (fun t i => ∃ k : Nat, k ≤ s.size ∧ i = .int .i64 k ∧ t = .int .i64 (dval (s.data.toList.take k) : Nat) ∧ Hid ((s.data.toList.take k).all isDig = true)) (fun _ i => s.size - (intOf i).toNat)
      case atStart => exact ⟨0, Nat.zero_le _, rfl, by simp [dval], by simp [Hid]⟩
      case round =>
        obtain ⟨k, hk, rfl, rfl, hA⟩ := hrel
        have hlk : (s.data.toList.take k).length = k := by rw [List.length_take, s_len]; omega
        by_cases hlt : k < s.size
        · have hv : dval (s.data.toList.take k) < 100000000 := by
            have h1 := dval_lt hA.out
            have h2 : 10 ^ (s.data.toList.take k).length ≤ 10 ^ 8 := Nat.pow_le_pow_right (by omega) (by omega)
            have h3 : (10 : Nat) ^ 8 = 100000000 := by decide
            omega
          have ES := Lib.hid (s_take s k hlt)
          obtain ⟨V, hV⟩ : ∃ V, dval (s.data.toList.take k) = V := ⟨_, rfl⟩
          rw [hV] at hv ⊢
          have HV := Lib.hid hV
          clear hV hlk
          by_cases hdg : isDig s[k] = true
          · have hb := isDig_bd hdg
            have g1 : ¬ (s[k].toNat : Int) < 48 := by omega
            have g2 : ¬ (57 : Int) < (s[k].toNat : Int) := by omega
            have HD := Lib.hid hdg
            clear hdg
            go_wp2_with fail
            go_round
            case rel => exact ⟨k + 1, by omega, by go_num, by rw [ES.out, dval_snoc, HV.out]; congr 1; omega, all_snoc hA HD ES⟩
            case measure => simp [intOf]; omega
          · have HD := Lib.hid (all_bad s k hlt (by simpa using hdg))
            by_cases g1 : (s[k].toNat : Int) < 48
            · clear hdg
              go_wp2_with fail
              go_ret2
              exact ⟨by unfold rdI; rw [rdPos_bad HD.out]; rfl, rfl⟩
            · have g2 : (57 : Int) < (s[k].toNat : Int) := by
                have : ¬ (48 ≤ s[k].toNat ∧ s[k].toNat ≤ 57) := fun h => hdg (decide_eq_true h)
                omega
              clear hdg
              go_wp2_with fail
              go_ret2
              exact ⟨by unfold rdI; rw [rdPos_bad HD.out]; rfl, rfl⟩
        · obtain rfl : k = s.size := by omega
          have e : s.data.toList.take s.size = s.data.toList := List.take_of_length_le (by rw [s_len]; exact Nat.le_refl _)
          rw [e] at hA ⊢
          clear e
          have HG := Lib.hid (rdPos_good (by rw [s_len]; exact H0.out) (by rw [s_len]; exact h9) HL.out hA.out)
          go_wp2_with fail
          go_ret2
          exact ⟨by unfold rdI; rw [HG.out]; rfl, rfl⟩
    · go_enter Tryd.func19, Tryd.ntmps19
      go_wp2_with fail
      go_loop [6, 7] (fun t i => ∃ k : Nat, k ≤ s.size ∧ i = .int .i64 k ∧ t = .int .i64 (dval (s.data.toList.take k) : Nat) ∧ Hid ((s.data.toList.take k).all isDig = true)) (fun _ i => s.size - (intOf i).toNat)
      case atStart => exact ⟨0, Nat.zero_le _, rfl, by simp [dval], by simp [Hid]⟩
      case round =>
        obtain ⟨k, hk, rfl, rfl, hA⟩ := hrel
        have hlk : (s.data.toList.take k).length = k := by rw [List.length_take, s_len]; omega
        by_cases hlt : k < s.size
        · have hv : dval (s.data.toList.take k) < 100000000 := by
            have h1 := dval_lt hA.out
            have h2 : 10 ^ (s.data.toList.take k).length ≤ 10 ^ 8 := Nat.pow_le_pow_right (by omega) (by omega)
            have h3 : (10 : Nat) ^ 8 = 100000000 := by decide
            omega
          have ES := Lib.hid (s_take s k hlt)
          obtain ⟨V, hV⟩ : ∃ V, dval (s.data.toList.take k) = V := ⟨_, rfl⟩
          rw [hV] at hv ⊢
          have HV := Lib.hid hV
          clear hV hlk
          by_cases hdg : isDig s[k] = true
          · have hb := isDig_bd hdg
            have g1 : ¬ (s[k].toNat : Int) < 48 := by omega
            have g2 : ¬ (57 : Int) < (s[k].toNat : Int) := by omega
            have HD := Lib.hid hdg
            clear hdg
            go_wp2_with fail
            go_round
            case rel => exact ⟨k + 1, by omega, by go_num, by rw [ES.out, dval_snoc, HV.out]; congr 1; omega, all_snoc hA HD ES⟩
            case measure => simp [intOf]; omega
          · have HD := Lib.hid (all_bad s k hlt (by simpa using hdg))
            by_cases g1 : (s[k].toNat : Int) < 48
            · clear hdg
              go_wp2_with fail
              go_ret2
              exact ⟨by unfold rdI; rw [rdPos_bad HD.out]; rfl, rfl⟩
            · have g2 : (57 : Int) < (s[k].toNat : Int) := by
                have : ¬ (48 ≤ s[k].toNat ∧ s[k].toNat ≤ 57) := fun h => hdg (decide_eq_true h)
                omega
              clear hdg
              go_wp2_with fail
              go_ret2
              exact ⟨by unfold rdI; rw [rdPos_bad HD.out]; rfl, rfl⟩
        · obtain rfl : k = s.size := by omega
          have e : s.data.toList.take s.size = s.data.toList := List.take_of_length_le (by rw [s_len]; exact Nat.le_refl _)
          rw [e] at hA ⊢
          clear e
          have HG := Lib.hid (rdPos_good (by rw [s_len]; exact H0.out) (by rw [s_len]; exact h9) HL.out hA.out)
          go_wp2_with fail
          go_ret2
          exact ⟨by unfold rdI; rw [HG.out]; rfl, rfl⟩

end Go.Proofs.YthlpgpgfdfnofabDoor
