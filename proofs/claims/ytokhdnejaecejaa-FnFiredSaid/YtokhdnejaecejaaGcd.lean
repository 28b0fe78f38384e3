/-
  What the model's l7Gcd answers. No statement of the seat is proved here.
-/
import Derived.Test.YtokhdnejaecejaaBase
import Derived.Test.YtokhdnejaecejaaStream
namespace Go.Proofs.Ytokhdnejaecejaa
open Go.RowKit

theorem gcd_step (a b : Nat) : Nat.gcd a b = Nat.gcd b (a % b) := by
  rw [Nat.gcd_comm a b, Nat.gcd_rec b a, Nat.gcd_comm]
set_option maxHeartbeats 1000000 in
theorem sgcd_any (x y : Nat) (w : World) (hx : x ≤ 4611686018427387904) (hy : y ≤ 4611686018427387904) :
    Calls Try.prog 109 #[.int .i64 x, .int .i64 y] w fun e w' => e = .returned (.int .i64 (Nat.gcd x y)) ∧ w = w' := by
  obtain ⟨r, hr⟩ : ∃ r, r = Nat.gcd x y := ⟨_, rfl⟩
  rw [← hr]
  have HR := Lib.hid hr
  clear hr
  go_enter Try.func109, Try.ntmps109
  go_wp2_with fail
  go_loop [0, 1] (fun s t => ∃ a b : Nat, s = .int .i64 a ∧ t = .int .i64 b ∧ Hid (r = Nat.gcd a b) ∧ a ≤ 4611686018427387904 ∧ b ≤ 4611686018427387904) (fun _ t => (intOf t).toNat)
  case atStart => exact ⟨x, y, rfl, rfl, HR, hx, hy⟩
  case round =>
    obtain ⟨a, b, rfl, rfl, HG, ha, hb⟩ := hrel
    by_cases h0 : b = 0
    · have HG0 := Lib.hid (show r = a by rw [HG.out, h0, Nat.gcd_zero_right])
      have d1 : ((b : Int) != 0) = false := by simp [h0]
      have d2 : ((b : Int) == 0) = true := by simp [h0]
      clear h0
      go_wp2_with fail
      go_ret
      exact ⟨by rw [HG0.out]; rfl, rfl⟩
    · have d1 : ((b : Int) != 0) = true := by simp [h0]
      have d2 : ((b : Int) == 0) = false := by simp [h0]
      have hb1 : 0 < b := Nat.pos_of_ne_zero h0
      have hne : ¬ (b : Int) = 0 := by omega
      have hm : a % b < b := Nat.mod_lt _ hb1
      have HS := Lib.hid (HG.out.trans (gcd_step a b))
      go_wp2_with fail
      go_round
      case rel => exact ⟨b, a % b, rfl, by simp, HS, hb, by omega⟩
      case measure => simp [intOf]; omega
end Go.Proofs.Ytokhdnejaecejaa
