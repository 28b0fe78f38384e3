/-
  What the model's own reading of a number answers: with the sign. No statement of the seat is proved here.
-/
import Derived.Test.YthlpgpgfdfnofabDoorRead2
namespace Go.Proofs.YthlpgpgfdfnofabDoor
open Go.RowKit
open Go.Lib (decDigits itoa)

theorem ext_zero (s : ByteArray) (h1 : 1 < s.size) (h : 0 < (s.extract 1 s.size).size) : (s.extract 1 s.size)[0] = s[1] := by
  rw [ByteArray.getElem_extract]
theorem rd_plain (s : ByteArray) (hF : ∀ h : 1 < s.size, ¬ (s[0].toNat : Int) = 45 ∨ (s[1].toNat : Int) = 45) : rd s.data.toList = (rdPos s.data.toList).map Int.ofNat := by
  unfold rd
  split
  · rename_i c r heq
    have hs : 1 < s.size := by rw [← s_len, heq]; simp
    have e0 : s[0] = 45 := by
      have := s_take s 0 (by omega)
      rw [heq] at this
      simpa using this.symm
    have e1 : s[1] = c := by
      have := s_take s 1 hs
      rw [heq] at this
      simp only [List.take_succ_cons, List.take_zero, List.cons_append, List.nil_append, List.cons.injEq, and_true, true_and] at this
      exact this.symm
    split
    · rename_i hc
      exfalso
      rcases hF hs with h | h
      · exact h (by rw [e0]; rfl)
      · rw [e1] at h
        exact hc (UInt8.toNat_inj.1 (by have : c.toNat = 45 := by omega
                                        rw [this]; rfl))
    · rw [heq, rdPos_no45]; rfl
  · rfl
theorem rd_sign (s : ByteArray) (h1 : 1 < s.size) (h0 : (s[0].toNat : Int) = 45) (h2 : ¬ (s[1].toNat : Int) = 45) :
    rd s.data.toList = (rdPos (s.extract 1 s.size).data.toList).bind fun n => if n ≠ 0 then some (-(n : Int)) else none := by
  obtain ⟨a, b, r, e⟩ : ∃ a b r, s.data.toList = a :: b :: r := by
    rcases hl : s.data.toList with _ | ⟨a, _ | ⟨b, r⟩⟩
    · have := s_len s; rw [hl] at this; simp at this; omega
    · have := s_len s; rw [hl] at this; simp at this; omega
    · exact ⟨a, b, r, rfl⟩
  have e0 : s[0] = a := by
    have := s_take s 0 (by omega)
    rw [e] at this
    simpa using this.symm
  have e1 : s[1] = b := by
    have := s_take s 1 h1
    rw [e] at this
    simp only [List.take_succ_cons, List.take_zero, List.cons_append, List.nil_append, List.cons.injEq, and_true, true_and] at this
    exact this.symm
  have ha : a = 45 := UInt8.toNat_inj.1 (by rw [← e0]; show s[0].toNat = 45; omega)
  have hb : b ≠ 45 := fun h => h2 (by rw [e1, h]; rfl)
  subst ha
  have ex : (s.extract 1 s.size).data.toList = b :: r := by
    have h : (s.extract 1 s.size).data.toList = (s.data.toList.drop 1).take (s.size - 1) := by
      rw [ByteArray.data_extract, Array.toList_extract]
    rw [h, e, List.drop_succ_cons, List.drop_zero, List.take_of_length_le]
    have := s_len s
    rw [e] at this
    simp only [List.length_cons] at this ⊢
    try omega
  rw [ex, e]
  conv => lhs; unfold rd
  exact if_pos hb

set_option maxRecDepth 100000 in
set_option maxHeartbeats 800000 in
theorem readAny (s : ByteArray) (w : World) (hs : s.size ≤ 1048577) :
    Calls Tryd.prog 19 #[.string s] w fun e w' => e = .returned (.tuple #[.int .i64 ((rd s.data.toList).getD 0), .bool (rd s.data.toList).isSome]) ∧ w = w' := by
  by_cases hF : ∀ h : 1 < s.size, ¬ (s[0].toNat : Int) = 45 ∨ (s[1].toNat : Int) = 45
  · refine (readPos s w hs hF).mono ?_
    rintro e w' ⟨rfl, rfl⟩
    rw [rd_plain s hF]
    refine ⟨ret_pair ?_ ?_, rfl⟩
    · unfold rdI; cases rdPos s.data.toList <;> rfl
    · cases rdPos s.data.toList <;> rfl
  · have ⟨h1, h2⟩ := Classical.not_forall.1 hF
    have d0 : 0 < s.size := Nat.lt_trans Nat.zero_lt_one h1
    have h0 : (s[0].toNat : Int) = 45 := Classical.byContradiction fun h => h2 (.inl h)
    have h3 : ¬ (s[1].toNat : Int) = 45 := fun h => h2 (.inr h)
    clear hF h2
    rw [rd_sign s h1 h0 h3]
    have d1 : decide ((1 : Int) < (s.size : Int)) = true := decide_eq_true (by omega)
    have hz : (s.extract 1 s.size).size = s.size - 1 := by simp
    obtain ⟨s', hs'⟩ : ∃ s', s.extract 1 s.size = s' := ⟨_, rfl⟩
    rw [hs'] at hz ⊢
    have hF' : ∀ h : 1 < s'.size, ¬ (s'[0].toNat : Int) = 45 ∨ (s'[1].toNat : Int) = 45 := fun h => by
      left
      intro h45
      apply h3
      have : s'[0] = s[1] := by subst hs'; exact ext_zero s h1 (by omega)
      rw [← this]; exact h45
    have hC : ∀ w, ReadSays s' w := fun w => readPos s' w (by omega) hF'
    have C := Lib.hid hC
    clear hC
    have HR : rdPos s'.data.toList = none ∨ ∃ n, rdPos s'.data.toList = some n ∧ n < 1000000000 := by
      cases h : rdPos s'.data.toList with
      | none => exact .inl rfl
      | some n => exact .inr ⟨n, rfl, by
          have e : rd s'.data.toList = some (n : Int) := by rw [rd_plain s' hF', h]; rfl
          have := rd_some e
          omega⟩
    clear hF'
    rcases HR with hr | ⟨n, hr, hn⟩
    · rw [hr]
      have HR := Lib.hid hr
      clear hr
      go_enter Tryd.func19, Tryd.ntmps19
      go_wp2_with fail
      refine (C.out w).mono ?_
      rintro e w' ⟨rfl, rfl⟩
      unfold rdI
      rw [HR.out]
      go_wp2_with fail
      go_ret2
      exact ⟨rfl, rfl⟩
    · rw [hr]
      have HR := Lib.hid hr
      clear hr
      by_cases hn0 : n = 0
      · subst hn0
        go_enter Tryd.func19, Tryd.ntmps19
        go_wp2_with fail
        refine (C.out w).mono ?_
        rintro e w' ⟨rfl, rfl⟩
        unfold rdI
        rw [HR.out]
        go_wp2_with fail
        go_ret2
        exact ⟨rfl, rfl⟩
      · have hn1 : ¬ (n : Int) = 0 := by omega
        simp only [Option.bind_some, ne_eq, hn0, not_false_eq_true, if_true, Option.getD_some, Option.isSome_some]
        go_enter Tryd.func19, Tryd.ntmps19
        go_wp2_with fail
        refine (C.out w).mono ?_
        rintro e w' ⟨rfl, rfl⟩
        unfold rdI
        rw [HR.out]
        go_wp2_with fail
        go_ret2
        exact ⟨ret_pair rfl (bne_iff_ne.2 hn1), rfl⟩

end Go.Proofs.YthlpgpgfdfnofabDoor
