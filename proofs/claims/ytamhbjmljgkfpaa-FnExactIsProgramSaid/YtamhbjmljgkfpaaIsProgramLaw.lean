/-
  The walk of the law FnExactIsProgram: it answers true and changes nothing that was there.
-/
import Derived.Test.YtamhbjmljgkfpaaIsPWords
namespace Go.Proofs.Ytamhbjmljgkfpaa
open Go.RowKit

set_option maxRecDepth 100000 in
set_option maxHeartbeats 40000000 in
theorem fnExactIsProgram_walk (v0 : Value) (x0 : Prg) (w : World) (h0 : PrgV w v0 x0) :
    Calls Try.prog 7 #[v0] w fun e w' => e = .returned (.bool true) ∧ Below w.heap.size w w' := by
  obtain ⟨c0, rfl, H0⟩ := h0
  have HA0 := Lib.hid H0
  clear H0
  have HB := Lib.hid (Below.refl w.heap.size w)
  go_enter Try.func7, Try.ntmps7
  have HL0 := Lib.hid (show (0 : Int) ≤ 1048576 ∧ (1048576 : Int) ≤ 1048576 by omega)
  go_wp2_with fail
  by_cases z0 : (((x0).code.length : Nat) : Int) ≤ 1048576
  case neg =>
    refine (szPrg_any _ x0 (1048576) _ ⟨_, rfl, HA0.out.below (bl2 HB.out (by first | exact Below.refl _ _ | exact (Below.refl _ _).drew | exact (Below.refl _ _).al _ | exact ((Below.refl _ _).al _).al _ | exact ((Below.refl _ _).al _).drew | exact ((Below.refl _ _).drew).al _ | exact (((Below.refl _ _).al _).al _).drew))⟩ HL0.out).mono ?_
    rintro e w1 ⟨rfl, hb⟩
    rw [if_neg z0]
    have hc : Below w.heap.size w w1 := by first | exact hb | exact cr_1 hb | exact cr_2 hb
    go_wp2_with fail
    go_ret
    exact ⟨rfl, HB.out.trans (hc.mono HB.out.size)⟩
  refine (szPrg_any _ x0 (1048576) _ ⟨_, rfl, HA0.out.below (bl2 HB.out (by first | exact Below.refl _ _ | exact (Below.refl _ _).drew | exact (Below.refl _ _).al _ | exact ((Below.refl _ _).al _).al _ | exact ((Below.refl _ _).al _).drew | exact ((Below.refl _ _).drew).al _ | exact (((Below.refl _ _).al _).al _).drew))⟩ HL0.out).mono ?_
  rintro e w1 ⟨rfl, hb1⟩
  rw [if_pos z0]
  obtain ⟨l1, hl⟩ : ∃ l : Int, l = 1048576 - (((x0).code.length : Nat) : Int) := ⟨_, rfl⟩
  rw [← hl]
  have HL1 := Lib.hid (show 0 ≤ l1 ∧ l1 ≤ 1048576 by have := HL0.out; omega)
  have HS0 := Lib.hid (show (x0).code.length ≤ 1048576 by have := HL0.out; omega)
  have d1 : decide (l1 < 0) = false := decide_eq_false (by have := HL1.out; omega)
  clear hl z0
  have hc1 : Below w.heap.size w w1 := (by first | exact hb1 | exact cr_d hb1 | exact cr_1 hb1 | exact cr_2 hb1 | exact cr_1d hb1 | exact cr_2d hb1 | exact cr_d1 hb1)
  have s1 := Lib.hid (show w.heap.size + 1 ≤ w1.heap.size from by have := hb1.size; simp at this; omega)
  have B_a0 := Lib.hid (show w1.heap[w.heap.size]? = some (.cells #[.int .i64 (x0).ins, .int .i64 (x0).outs, c0] 54) from blk_in (hp1 _ _) hb1)
  replace HB := Lib.hid (HB.out.trans (hc1.mono HB.out.size))
  clear hc1 hb1
  obtain ⟨c_a0_0, c_a0_1, c_a0_2⟩ := cells3 B_a0.out
  have l_a0 := lt_of B_a0.out
  go_wp2_with fail
  refine (toPrg_any _ x0 _ ⟨_, rfl, HA0.out.below (bl2 HB.out (by first | exact Below.refl _ _ | exact (Below.refl _ _).drew | exact (Below.refl _ _).al _ | exact ((Below.refl _ _).al _).al _ | exact ((Below.refl _ _).al _).drew | exact ((Below.refl _ _).drew).al _ | exact (((Below.refl _ _).al _).al _).drew))⟩ HS0.out).mono ?_
  rintro e w2 ⟨v_t0, rfl, ⟨c_t0, rfl, o_t0⟩, hb2⟩
  have hc2 : Below w1.heap.size w1 w2 := (by first | exact hb2 | exact cr_d hb2 | exact cr_1 hb2 | exact cr_2 hb2 | exact cr_1d hb2 | exact cr_2d hb2 | exact cr_d1 hb2)
  have s2 := Lib.hid (show w1.heap.size + 0 ≤ w2.heap.size from by exact hc2.size)
  clear c_a0_0 c_a0_1 c_a0_2 l_a0
  replace B_a0 := Lib.hid (blk_in B_a0.out hc2)
  obtain ⟨a_t0, k_t0, rfl⟩ := o_t0.shape
  have u_t0 := Lib.hid (show ∀ k, (Value.slice a_t0 (x0).code.length k_t0).ownBlock = some k → k < w2.heap.size from fun k e => (o_t0.lt k e).2)
  replace o_t0 := Lib.hid (OwnI.mono (lo' := w1.heap.size + 0) o_t0 (by first | exact Nat.le_refl _ | simp))
  replace HB := Lib.hid (HB.out.trans (hc2.mono HB.out.size))
  clear hc2 hb2
  obtain ⟨c_a0_0, c_a0_1, c_a0_2⟩ := cells3 B_a0.out
  have l_a0 := lt_of B_a0.out
  go_wp2_with fail
  refine (sisp_any _ x0 _ ⟨_, rfl, (o_t0.out.below (by first | exact Below.refl _ _ | exact (Below.refl _ _).drew | exact (Below.refl _ _).al _ | exact ((Below.refl _ _).al _).al _ | exact ((Below.refl _ _).al _).drew | exact ((Below.refl _ _).drew).al _ | exact (((Below.refl _ _).al _).al _).drew)).sl⟩).mono ?_
  rintro e w3 ⟨rfl, hb3⟩
  have hc3 : Below w2.heap.size w2 w3 := (by first | exact hb3 | exact cr_d hb3 | exact cr_1 hb3 | exact cr_2 hb3 | exact cr_1d hb3 | exact cr_2d hb3 | exact cr_d1 hb3)
  have s3 := Lib.hid (show w2.heap.size + 0 ≤ w3.heap.size from by exact hc3.size)
  clear c_a0_0 c_a0_1 c_a0_2 l_a0
  replace B_a0 := Lib.hid (blk_in B_a0.out hc3)
  replace o_t0 := Lib.hid (o_t0.out.below hc3)
  replace HB := Lib.hid (HB.out.trans (hc3.mono HB.out.size))
  clear hc3 hb3
  obtain ⟨c_a0_0, c_a0_1, c_a0_2⟩ := cells3 B_a0.out
  have l_a0 := lt_of B_a0.out
  clear o_t0 u_t0
  go_wp2_with fail
  refine (toPrg_any _ x0 _ ⟨_, rfl, HA0.out.below (bl2 HB.out (by first | exact Below.refl _ _ | exact (Below.refl _ _).drew | exact (Below.refl _ _).al _ | exact ((Below.refl _ _).al _).al _ | exact ((Below.refl _ _).al _).drew | exact ((Below.refl _ _).drew).al _ | exact (((Below.refl _ _).al _).al _).drew))⟩ HS0.out).mono ?_
  rintro e w4 ⟨v_y0, rfl, ⟨c_y0, rfl, o_y0⟩, hb4⟩
  have hc4 : Below w3.heap.size w3 w4 := (by first | exact hb4 | exact cr_d hb4 | exact cr_1 hb4 | exact cr_2 hb4 | exact cr_1d hb4 | exact cr_2d hb4 | exact cr_d1 hb4)
  have s4 := Lib.hid (show w3.heap.size + 0 ≤ w4.heap.size from by exact hc4.size)
  clear c_a0_0 c_a0_1 c_a0_2 l_a0
  replace B_a0 := Lib.hid (blk_in B_a0.out hc4)
  obtain ⟨a_y0, k_y0, rfl⟩ := o_y0.shape
  have u_y0 := Lib.hid (show ∀ k, (Value.slice a_y0 (x0).code.length k_y0).ownBlock = some k → k < w4.heap.size from fun k e => (o_y0.lt k e).2)
  replace o_y0 := Lib.hid (OwnI.mono (lo' := w3.heap.size + 0) o_y0 (by first | exact Nat.le_refl _ | simp))
  replace HB := Lib.hid (HB.out.trans (hc4.mono HB.out.size))
  clear hc4 hb4
  obtain ⟨c_a0_0, c_a0_1, c_a0_2⟩ := cells3 B_a0.out
  have l_a0 := lt_of B_a0.out
  go_wp2_with fail
  refine (iisp_any _ x0 _ ⟨_, rfl, (o_y0.out.below (by first | exact Below.refl _ _ | exact (Below.refl _ _).drew | exact (Below.refl _ _).al _ | exact ((Below.refl _ _).al _).al _ | exact ((Below.refl _ _).al _).drew | exact ((Below.refl _ _).drew).al _ | exact (((Below.refl _ _).al _).al _).drew)).sl⟩).mono ?_
  rintro e w5 ⟨rfl, hb5⟩
  have hc5 : Below w4.heap.size w4 w5 := (by first | exact hb5 | exact cr_d hb5 | exact cr_1 hb5 | exact cr_2 hb5 | exact cr_1d hb5 | exact cr_2d hb5 | exact cr_d1 hb5)
  have s5 := Lib.hid (show w4.heap.size + 1 ≤ w5.heap.size from by have := hb5.size; simp at this; omega)
  clear c_a0_0 c_a0_1 c_a0_2 l_a0
  replace B_a0 := Lib.hid (blk_in B_a0.out hc5)
  have B_y0 := Lib.hid (show w5.heap[w4.heap.size]? = some (.cells #[.int .i64 (x0).ins, .int .i64 (x0).outs, (Value.slice a_y0 (x0).code.length k_y0)] 31) from blk_in (hp1 _ _) hb5)
  replace o_y0 := Lib.hid (o_y0.out.below hc5)
  replace HB := Lib.hid (HB.out.trans (hc5.mono HB.out.size))
  clear hc5 hb5
  obtain ⟨c_a0_0, c_a0_1, c_a0_2⟩ := cells3 B_a0.out
  have l_a0 := lt_of B_a0.out
  obtain ⟨c_y0_0, c_y0_1, c_y0_2⟩ := cells3 B_y0.out
  have l_y0 := lt_of B_y0.out
  go_wp2_with fail
  go_region_with (first | (go_at_call 32; refine (toPrg_any _ x0 _ ⟨_, rfl, HA0.out.below (bl2 HB.out (by first | exact Below.refl _ _ | exact (Below.refl _ _).drew | exact (Below.refl _ _).al _ | exact ((Below.refl _ _).al _).al _ | exact ((Below.refl _ _).al _).drew | exact ((Below.refl _ _).drew).al _ | exact (((Below.refl _ _).al _).al _).drew))⟩ HS0.out).mono ?_; rintro e w6 ⟨v_z0, rfl, ⟨c_z0, rfl, o_z0⟩, hb6⟩; have hc6 : Below w5.heap.size w5 w6 := (by first | exact hb6 | exact cr_d hb6 | exact cr_1 hb6 | exact cr_2 hb6 | exact cr_1d hb6 | exact cr_2d hb6 | exact cr_d1 hb6); have s6 := Lib.hid (show w5.heap.size + 0 ≤ w6.heap.size from by exact hc6.size); clear c_a0_0 c_a0_1 c_a0_2 l_a0; clear c_y0_0 c_y0_1 c_y0_2 l_y0; replace B_a0 := Lib.hid (blk_in B_a0.out hc6); replace B_y0 := Lib.hid (blk_in B_y0.out hc6); replace o_y0 := Lib.hid (o_y0.out.below hc6); obtain ⟨a_z0, k_z0, rfl⟩ := o_z0.shape; have u_z0 := Lib.hid (show ∀ k, (Value.slice a_z0 (x0).code.length k_z0).ownBlock = some k → k < w6.heap.size from fun k e => (o_z0.lt k e).2); replace o_z0 := Lib.hid (OwnI.mono (lo' := w5.heap.size + 0) o_z0 (by first | exact Nat.le_refl _ | simp)); replace HB := Lib.hid (HB.out.trans (hc6.mono HB.out.size)); clear hc6 hb6; obtain ⟨c_a0_0, c_a0_1, c_a0_2⟩ := cells3 B_a0.out; have l_a0 := lt_of B_a0.out; obtain ⟨c_y0_0, c_y0_1, c_y0_2⟩ := cells3 B_y0.out; have l_y0 := lt_of B_y0.out) | (go_at_call 34; refine (eqPrg_ok _ _ x0 _ ⟨_, rfl, (o_y0.out.below (by first | exact Below.refl _ _ | exact (Below.refl _ _).drew | exact (Below.refl _ _).al _ | exact ((Below.refl _ _).al _).al _ | exact ((Below.refl _ _).al _).drew | exact ((Below.refl _ _).drew).al _ | exact (((Below.refl _ _).al _).al _).drew)).sl⟩ ⟨_, rfl, (o_z0.out.below (by first | exact Below.refl _ _ | exact (Below.refl _ _).drew | exact (Below.refl _ _).al _ | exact ((Below.refl _ _).al _).al _ | exact ((Below.refl _ _).al _).drew | exact ((Below.refl _ _).drew).al _ | exact (((Below.refl _ _).al _).al _).drew)).sl⟩).mono ?_; rintro e w7 ⟨rfl, hb7⟩; have hc7 : Below w6.heap.size w6 w7 := (by first | exact hb7 | exact cr_d hb7 | exact cr_1 hb7 | exact cr_2 hb7 | exact cr_1d hb7 | exact cr_2d hb7 | exact cr_d1 hb7); have s7 := Lib.hid (show w6.heap.size + 0 ≤ w7.heap.size from by exact hc7.size); clear c_a0_0 c_a0_1 c_a0_2 l_a0; clear c_y0_0 c_y0_1 c_y0_2 l_y0; replace B_a0 := Lib.hid (blk_in B_a0.out hc7); replace B_y0 := Lib.hid (blk_in B_y0.out hc7); replace o_y0 := Lib.hid (o_y0.out.below hc7); replace o_z0 := Lib.hid (o_z0.out.below hc7); replace HB := Lib.hid (HB.out.trans (hc7.mono HB.out.size)); clear hc7 hb7; obtain ⟨c_a0_0, c_a0_1, c_a0_2⟩ := cells3 B_a0.out; have l_a0 := lt_of B_a0.out; obtain ⟨c_y0_0, c_y0_1, c_y0_2⟩ := cells3 B_y0.out; have l_y0 := lt_of B_y0.out))
  all_goals
    clear o_z0 u_z0
    go_wp2_with fail
    go_ret
    exact ⟨rfl, HB.out⟩

end Go.Proofs.Ytamhbjmljgkfpaa
