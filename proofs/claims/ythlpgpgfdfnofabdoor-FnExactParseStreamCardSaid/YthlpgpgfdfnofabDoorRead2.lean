/-
  What the model's own reading of a number answers: every text. No statement of the seat is proved here.
-/
import Derived.Test.YthlpgpgfdfnofabDoorRead
namespace Go.Proofs.YthlpgpgfdfnofabDoor
open Go.RowKit
open Go.Lib (decDigits itoa)

def ReadSays (s : ByteArray) (w : World) : Prop := Calls Tryd.prog 19 #[.string s] w fun e w' => e = .returned (.tuple #[.int .i64 (rdI s.data.toList), .bool (rdPos s.data.toList).isSome]) ∧ w = w'

set_option maxRecDepth 100000 in
set_option maxHeartbeats 800000 in
theorem readEmpty (s : ByteArray) (w : World) (h0 : s.size = 0) : ReadSays s w := by
  unfold ReadSays rdI
  rw [rdPos_len0 (by rw [s_len]; omega)]
  have d1 : decide ((1 : Int) < (s.size : Int)) = false := decide_eq_false (by omega)
  have d3 : decide ((s.size : Int) < 1) = true := decide_eq_true (by omega)
  go_enter Tryd.func19, Tryd.ntmps19
  go_wp2_with fail
  go_ret2
  exact ⟨rfl, rfl⟩

set_option maxRecDepth 100000 in
set_option maxHeartbeats 800000 in
theorem readLong (s : ByteArray) (w : World) (hs : s.size ≤ 1048577) (h9 : 9 < s.size) (hF : ¬ (s[0].toNat : Int) = 45 ∨ (s[1].toNat : Int) = 45) : ReadSays s w := by
  unfold ReadSays rdI
  rw [rdPos_len9 (by rw [s_len]; omega)]
  have d0 : 0 < s.size := by omega
  have d0' : 1 < s.size := by omega
  have d1 : decide ((1 : Int) < (s.size : Int)) = true := decide_eq_true (by omega)
  have d2 : decide ((9 : Int) < (s.size : Int)) = true := decide_eq_true (by omega)
  have d3 : decide ((s.size : Int) < 1) = false := decide_eq_false (by omega)
  by_cases h45 : (s[0].toNat : Int) = 45
  · have h1 : (s[1].toNat : Int) = 45 := hF.resolve_left (fun h => h h45)
    clear hF
    go_enter Tryd.func19, Tryd.ntmps19
    go_wp2_with fail
    go_ret2
    exact ⟨rfl, rfl⟩
  · clear hF
    go_enter Tryd.func19, Tryd.ntmps19
    go_wp2_with fail
    go_ret2
    exact ⟨rfl, rfl⟩

set_option maxRecDepth 100000 in
set_option maxHeartbeats 800000 in
theorem readLead (s : ByteArray) (w : World) (h1 : 1 < s.size) (h9 : s.size ≤ 9) (hl : (s[0].toNat : Int) = 48) : ReadSays s w := by
  have hld : leads s.data.toList = true := by
    rw [s_leads s (by omega)]
    simp only [Bool.and_eq_true, decide_eq_true_eq]
    exact ⟨by omega, h1⟩
  unfold ReadSays rdI
  rw [rdPos_lead hld]
  have d0 : 0 < s.size := by omega
  have d1 : decide ((1 : Int) < (s.size : Int)) = true := decide_eq_true (by omega)
  have d2 : decide ((9 : Int) < (s.size : Int)) = false := decide_eq_false (by omega)
  have d3 : decide ((s.size : Int) < 1) = false := decide_eq_false (by omega)
  have h45 : ¬ (s[0].toNat : Int) = 45 := by omega
  clear hld
  go_enter Tryd.func19, Tryd.ntmps19
  go_wp2_with fail
  go_ret2
  exact ⟨rfl, rfl⟩

set_option maxRecDepth 100000 in
set_option maxHeartbeats 800000 in
theorem readDash (s : ByteArray) (w : World) (h1 : 1 < s.size) (h9 : s.size ≤ 9) (h45 : (s[0].toNat : Int) = 45) (h46 : (s[1].toNat : Int) = 45) : ReadSays s w := by
  have d0 : 0 < s.size := by omega
  unfold ReadSays rdI
  rw [rdPos_bad (all_bad s 0 d0 (decide_eq_false (by omega)))]
  have d1 : decide ((1 : Int) < (s.size : Int)) = true := decide_eq_true (by omega)
  have d2 : decide ((9 : Int) < (s.size : Int)) = false := decide_eq_false (by omega)
  have d3 : decide ((s.size : Int) < 1) = false := decide_eq_false (by omega)
  have h48 : ¬ (s[0].toNat : Int) = 48 := by omega
  have g1 : (s[0].toNat : Int) < 48 := by omega
  go_enter Tryd.func19, Tryd.ntmps19
  go_wp2_with fail
  go_loop [6, 7] (fun t i => t = .int .i64 0 ∧ i = .int .i64 0) (fun _ _ => 0)
  case atStart => exact ⟨rfl, rfl⟩
  case round =>
    obtain ⟨rfl, rfl⟩ := hrel
    go_wp2_with fail
    go_ret2
    exact ⟨rfl, rfl⟩

/-- A text without a sign that counts. -/
theorem readPos (s : ByteArray) (w : World) (hs : s.size ≤ 1048577) (hF : ∀ h : 1 < s.size, ¬ (s[0].toNat : Int) = 45 ∨ (s[1].toNat : Int) = 45) : ReadSays s w := by
  by_cases h0 : s.size = 0
  · exact readEmpty s w h0
  by_cases h9 : 9 < s.size
  · exact readLong s w hs h9 (hF (by omega))
  by_cases h1 : 1 < s.size
  · by_cases h48 : (s[0].toNat : Int) = 48
    · exact readLead s w h1 (by omega) h48
    · have hl : leads s.data.toList = false := by
        rw [s_leads s (by omega)]
        simp only [Bool.and_eq_false_iff, decide_eq_false_iff_not]
        left; omega
      rcases hF h1 with h | h
      · exact readLoop s w (by omega) (by omega) hl (.inr (decide_eq_false h))
      · by_cases h45 : (s[0].toNat : Int) = 45
        · exact readDash s w h1 (by omega) h45 h
        · exact readLoop s w (by omega) (by omega) hl (.inr (decide_eq_false h45))
  · have hl : leads s.data.toList = false := by
      rw [s_leads s (by omega)]
      simp only [Bool.and_eq_false_iff, decide_eq_false_iff_not]
      right; omega
    exact readLoop s w (by omega) (by omega) hl (.inl (by omega))

end Go.Proofs.YthlpgpgfdfnofabDoor
