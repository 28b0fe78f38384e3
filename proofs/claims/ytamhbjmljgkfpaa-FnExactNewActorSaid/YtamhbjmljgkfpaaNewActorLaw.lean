/-
  The walk of the law FnExactNewActor: it answers true and changes nothing that was there.
-/
import Derived.Test.YtamhbjmljgkfpaaActs
namespace Go.Proofs.Ytamhbjmljgkfpaa
open Go.RowKit

set_option maxRecDepth 100000 in
set_option maxHeartbeats 40000000 in
theorem fnExactNewActor_walk (v0 : Value) (x0 : Prg) (w : World) (h0 : PrgV w v0 x0) :
    Calls Try.prog 8 #[v0] w fun e w' => e = .returned (.bool true) ∧ Below w.heap.size w w' := by
  obtain ⟨c0, rfl, H0⟩ := h0
  have HA0 := Lib.hid H0
  clear H0
  have HB := Lib.hid (Below.refl w.heap.size w)
  go_enter Try.func8, Try.ntmps8
  have HL0 := Lib.hid (show (0 : Int) ≤ 1048576 ∧ (1048576 : Int) ≤ 1048576 by omega)
  go_wp2_with fail
  by_cases z0 : (((x0).code.length : Nat) : Int) ≤ 1048576
  case neg =>
    refine (szPrg_any _ x0 (1048576) _ ⟨_, rfl, HA0.out.below (bl2 HB.out (by first | exact Below.refl _ _ | exact (Below.refl _ _).drew | exact (Below.refl _ _).al _ | exact ((Below.refl _ _).al _).al _ | exact ((Below.refl _ _).al _).drew | exact ((Below.refl _ _).drew).al _ | exact (((Below.refl _ _).al _).al _).drew))⟩ HL0.out).mono ?_
    rintro e w1 ⟨rfl, hb⟩
    rw [if_neg z0]
    have hc : Below w.heap.size w w1 := by first | exact hb | exact cr_1 hb | exact cr_2 hb
    go_wp2_with fail
    go_ret
    exact ⟨rfl, HB.out.trans (hc.mono HB.out.size)⟩
  refine (szPrg_any _ x0 (1048576) _ ⟨_, rfl, HA0.out.below (bl2 HB.out (by first | exact Below.refl _ _ | exact (Below.refl _ _).drew | exact (Below.refl _ _).al _ | exact ((Below.refl _ _).al _).al _ | exact ((Below.refl _ _).al _).drew | exact ((Below.refl _ _).drew).al _ | exact (((Below.refl _ _).al _).al _).drew))⟩ HL0.out).mono ?_
  rintro e w1 ⟨rfl, hb1⟩
  rw [if_pos z0]
  obtain ⟨l1, hl⟩ : ∃ l : Int, l = 1048576 - (((x0).code.length : Nat) : Int) := ⟨_, rfl⟩
  rw [← hl]
  have HL1 := Lib.hid (show 0 ≤ l1 ∧ l1 ≤ 1048576 by have := HL0.out; omega)
  have HS0 := Lib.hid (show (x0).code.length ≤ 1048576 by have := HL0.out; omega)
  have d1 : decide (l1 < 0) = false := decide_eq_false (by have := HL1.out; omega)
  clear hl z0
  have hc1 : Below w.heap.size w w1 := (by first | exact hb1 | exact cr_d hb1 | exact cr_1 hb1 | exact cr_2 hb1 | exact cr_1d hb1 | exact cr_2d hb1 | exact cr_d1 hb1)
  have s1 := Lib.hid (show w.heap.size + 1 ≤ w1.heap.size from by have := hb1.size; simp at this; omega)
  have B_a0 := Lib.hid (show w1.heap[w.heap.size]? = some (.cells #[.int .i64 (x0).ins, .int .i64 (x0).outs, c0] 54) from blk_in (hp1 _ _) hb1)
  replace HB := Lib.hid (HB.out.trans (hc1.mono HB.out.size))
  clear hc1 hb1
  obtain ⟨c_a0_0, c_a0_1, c_a0_2⟩ := cells3 B_a0.out
  have l_a0 := lt_of B_a0.out
  go_wp2_with fail
  refine (toPrg_any _ x0 _ ⟨_, rfl, HA0.out.below (bl2 HB.out (by first | exact Below.refl _ _ | exact (Below.refl _ _).drew | exact (Below.refl _ _).al _ | exact ((Below.refl _ _).al _).al _ | exact ((Below.refl _ _).al _).drew | exact ((Below.refl _ _).drew).al _ | exact (((Below.refl _ _).al _).al _).drew))⟩ HS0.out).mono ?_
  rintro e w2 ⟨v_t0, rfl, ⟨c_t0, rfl, o_t0⟩, hb2⟩
  have hc2 : Below w1.heap.size w1 w2 := (by first | exact hb2 | exact cr_d hb2 | exact cr_1 hb2 | exact cr_2 hb2 | exact cr_1d hb2 | exact cr_2d hb2 | exact cr_d1 hb2)
  have s2 := Lib.hid (show w1.heap.size + 0 ≤ w2.heap.size from by exact hc2.size)
  clear c_a0_0 c_a0_1 c_a0_2 l_a0
  replace B_a0 := Lib.hid (blk_in B_a0.out hc2)
  obtain ⟨a_t0, k_t0, rfl⟩ := o_t0.shape
  have u_t0 := Lib.hid (show ∀ k, (Value.slice a_t0 (x0).code.length k_t0).ownBlock = some k → k < w2.heap.size from fun k e => (o_t0.lt k e).2)
  replace o_t0 := Lib.hid (OwnI.mono (lo' := w1.heap.size + 0) o_t0 (by first | exact Nat.le_refl _ | simp))
  replace HB := Lib.hid (HB.out.trans (hc2.mono HB.out.size))
  clear hc2 hb2
  obtain ⟨c_a0_0, c_a0_1, c_a0_2⟩ := cells3 B_a0.out
  have l_a0 := lt_of B_a0.out
  go_wp2_with fail
  refine (snew_any _ x0 _ ⟨_, rfl, (o_t0.out.below (by first | exact Below.refl _ _ | exact (Below.refl _ _).drew | exact (Below.refl _ _).al _ | exact ((Below.refl _ _).al _).al _ | exact ((Below.refl _ _).al _).drew | exact ((Below.refl _ _).drew).al _ | exact (((Below.refl _ _).al _).al _).drew)).sl⟩).mono ?_
  rintro e w3 ⟨v_r0, rfl, ⟨c_r0, rfl, o_r0⟩, hb3⟩
  have hc3 : Below w2.heap.size w2 w3 := (by first | exact hb3 | exact cr_d hb3 | exact cr_1 hb3 | exact cr_2 hb3 | exact cr_1d hb3 | exact cr_2d hb3 | exact cr_d1 hb3)
  have s3 := Lib.hid (show w2.heap.size + 0 ≤ w3.heap.size from by exact hc3.size)
  clear c_a0_0 c_a0_1 c_a0_2 l_a0
  replace B_a0 := Lib.hid (blk_in B_a0.out hc3)
  replace o_t0 := Lib.hid (o_t0.out.below hc3)
  obtain ⟨a_r0, k_r0, rfl⟩ := o_r0.shape
  have u_r0 := Lib.hid (show ∀ k, (Value.slice a_r0 ((newActorR0 x0)).regs.length k_r0).ownBlock = some k → k < w3.heap.size from fun k e => (o_r0.lt k e).2)
  replace o_r0 := Lib.hid (Own.mono (lo' := w2.heap.size + 0) o_r0 (by first | exact Nat.le_refl _ | simp))
  replace HB := Lib.hid (HB.out.trans (hc3.mono HB.out.size))
  clear hc3 hb3
  obtain ⟨c_a0_0, c_a0_1, c_a0_2⟩ := cells3 B_a0.out
  have l_a0 := lt_of B_a0.out
  clear o_t0 u_t0
  go_wp2_with fail
  refine (toPrg_any _ x0 _ ⟨_, rfl, HA0.out.below (bl2 HB.out (by first | exact Below.refl _ _ | exact (Below.refl _ _).drew | exact (Below.refl _ _).al _ | exact ((Below.refl _ _).al _).al _ | exact ((Below.refl _ _).al _).drew | exact ((Below.refl _ _).drew).al _ | exact (((Below.refl _ _).al _).al _).drew))⟩ HS0.out).mono ?_
  rintro e w4 ⟨v_y0, rfl, ⟨c_y0, rfl, o_y0⟩, hb4⟩
  have hc4 : Below w3.heap.size w3 w4 := (by first | exact hb4 | exact cr_d hb4 | exact cr_1 hb4 | exact cr_2 hb4 | exact cr_1d hb4 | exact cr_2d hb4 | exact cr_d1 hb4)
  have s4 := Lib.hid (show w3.heap.size + 1 ≤ w4.heap.size from by have := hb4.size; simp at this; omega)
  clear c_a0_0 c_a0_1 c_a0_2 l_a0
  replace B_a0 := Lib.hid (blk_in B_a0.out hc4)
  have B_r0 := Lib.hid (show w4.heap[w3.heap.size]? = some (.cells #[.int .i64 ((newActorR0 x0)).pc, (Value.slice a_r0 ((newActorR0 x0)).regs.length k_r0)] 43) from blk_in (hp1 _ _) hb4)
  replace o_r0 := Lib.hid (o_r0.out.below hc4)
  obtain ⟨a_y0, k_y0, rfl⟩ := o_y0.shape
  have u_y0 := Lib.hid (show ∀ k, (Value.slice a_y0 (x0).code.length k_y0).ownBlock = some k → k < w4.heap.size from fun k e => (o_y0.lt k e).2)
  replace o_y0 := Lib.hid (OwnI.mono (lo' := w3.heap.size + 1) o_y0 (by first | exact Nat.le_refl _ | simp))
  replace HB := Lib.hid (HB.out.trans (hc4.mono HB.out.size))
  clear hc4 hb4
  obtain ⟨c_a0_0, c_a0_1, c_a0_2⟩ := cells3 B_a0.out
  have l_a0 := lt_of B_a0.out
  obtain ⟨c_r0_0, c_r0_1⟩ := cells2 B_r0.out
  have l_r0 := lt_of B_r0.out
  go_wp2_with fail
  refine (inew_any _ x0 _ ⟨_, rfl, (o_y0.out.below (by first | exact Below.refl _ _ | exact (Below.refl _ _).drew | exact (Below.refl _ _).al _ | exact ((Below.refl _ _).al _).al _ | exact ((Below.refl _ _).al _).drew | exact ((Below.refl _ _).drew).al _ | exact (((Below.refl _ _).al _).al _).drew)).sl⟩).mono ?_
  rintro e w5 ⟨v_g0, rfl, ⟨c_g0, rfl, o_g0⟩, hb5⟩
  have hc5 : Below w4.heap.size w4 w5 := (by first | exact hb5 | exact cr_d hb5 | exact cr_1 hb5 | exact cr_2 hb5 | exact cr_1d hb5 | exact cr_2d hb5 | exact cr_d1 hb5)
  have s5 := Lib.hid (show w4.heap.size + 1 ≤ w5.heap.size from by have := hb5.size; simp at this; omega)
  clear c_a0_0 c_a0_1 c_a0_2 l_a0
  clear c_r0_0 c_r0_1 l_r0
  replace B_a0 := Lib.hid (blk_in B_a0.out hc5)
  replace B_r0 := Lib.hid (blk_in B_r0.out hc5)
  have B_y0 := Lib.hid (show w5.heap[w4.heap.size]? = some (.cells #[.int .i64 (x0).ins, .int .i64 (x0).outs, (Value.slice a_y0 (x0).code.length k_y0)] 31) from blk_in (hp1 _ _) hb5)
  replace o_r0 := Lib.hid (o_r0.out.below hc5)
  replace o_y0 := Lib.hid (o_y0.out.below hc5)
  obtain ⟨a_g0, k_g0, rfl⟩ := o_g0.shape
  have u_g0 := Lib.hid (show ∀ k, (Value.slice a_g0 ((newActorR0 x0)).regs.length k_g0).ownBlock = some k → k < w5.heap.size from fun k e => (o_g0.lt k e).2)
  replace o_g0 := Lib.hid (Own.mono (lo' := w4.heap.size + 1) o_g0 (by first | exact Nat.le_refl _ | simp))
  replace HB := Lib.hid (HB.out.trans (hc5.mono HB.out.size))
  clear hc5 hb5
  obtain ⟨c_a0_0, c_a0_1, c_a0_2⟩ := cells3 B_a0.out
  have l_a0 := lt_of B_a0.out
  obtain ⟨c_r0_0, c_r0_1⟩ := cells2 B_r0.out
  have l_r0 := lt_of B_r0.out
  obtain ⟨c_y0_0, c_y0_1, c_y0_2⟩ := cells3 B_y0.out
  have l_y0 := lt_of B_y0.out
  go_wp2_with fail
  refine (eqAct_ok _ _ (newActorR0 x0) _ ⟨_, rfl, (o_g0.out.below (by first | exact Below.refl _ _ | exact (Below.refl _ _).drew | exact (Below.refl _ _).al _ | exact ((Below.refl _ _).al _).al _ | exact ((Below.refl _ _).al _).drew | exact ((Below.refl _ _).drew).al _ | exact (((Below.refl _ _).al _).al _).drew)).sl⟩ ⟨_, rfl, (o_r0.out.below (by first | exact Below.refl _ _ | exact (Below.refl _ _).drew | exact (Below.refl _ _).al _ | exact ((Below.refl _ _).al _).al _ | exact ((Below.refl _ _).al _).drew | exact ((Below.refl _ _).drew).al _ | exact (((Below.refl _ _).al _).al _).drew)).sl⟩).mono ?_
  rintro e w6 ⟨rfl, hb6⟩
  have hc6 : Below w5.heap.size w5 w6 := (by first | exact hb6 | exact cr_d hb6 | exact cr_1 hb6 | exact cr_2 hb6 | exact cr_1d hb6 | exact cr_2d hb6 | exact cr_d1 hb6)
  have s6 := Lib.hid (show w5.heap.size + 1 ≤ w6.heap.size from by have := hb6.size; simp at this; omega)
  clear c_a0_0 c_a0_1 c_a0_2 l_a0
  clear c_r0_0 c_r0_1 l_r0
  clear c_y0_0 c_y0_1 c_y0_2 l_y0
  replace B_a0 := Lib.hid (blk_in B_a0.out hc6)
  replace B_r0 := Lib.hid (blk_in B_r0.out hc6)
  replace B_y0 := Lib.hid (blk_in B_y0.out hc6)
  have B_g0 := Lib.hid (show w6.heap[w5.heap.size]? = some (.cells #[.int .i64 ((newActorR0 x0)).pc, (Value.slice a_g0 ((newActorR0 x0)).regs.length k_g0)] 43) from blk_in (hp1 _ _) hb6)
  replace o_r0 := Lib.hid (o_r0.out.below hc6)
  replace o_y0 := Lib.hid (o_y0.out.below hc6)
  replace o_g0 := Lib.hid (o_g0.out.below hc6)
  replace HB := Lib.hid (HB.out.trans (hc6.mono HB.out.size))
  clear hc6 hb6
  obtain ⟨c_a0_0, c_a0_1, c_a0_2⟩ := cells3 B_a0.out
  have l_a0 := lt_of B_a0.out
  obtain ⟨c_r0_0, c_r0_1⟩ := cells2 B_r0.out
  have l_r0 := lt_of B_r0.out
  obtain ⟨c_y0_0, c_y0_1, c_y0_2⟩ := cells3 B_y0.out
  have l_y0 := lt_of B_y0.out
  obtain ⟨c_g0_0, c_g0_1⟩ := cells2 B_g0.out
  have l_g0 := lt_of B_g0.out
  go_wp2_with fail
  go_region_with (first | (go_at_call 32; refine (toPrg_any _ x0 _ ⟨_, rfl, HA0.out.below (bl2 HB.out (by first | exact Below.refl _ _ | exact (Below.refl _ _).drew | exact (Below.refl _ _).al _ | exact ((Below.refl _ _).al _).al _ | exact ((Below.refl _ _).al _).drew | exact ((Below.refl _ _).drew).al _ | exact (((Below.refl _ _).al _).al _).drew))⟩ HS0.out).mono ?_; rintro e w7 ⟨v_z0, rfl, ⟨c_z0, rfl, o_z0⟩, hb7⟩; have hc7 : Below w6.heap.size w6 w7 := (by first | exact hb7 | exact cr_d hb7 | exact cr_1 hb7 | exact cr_2 hb7 | exact cr_1d hb7 | exact cr_2d hb7 | exact cr_d1 hb7); have s7 := Lib.hid (show w6.heap.size + 0 ≤ w7.heap.size from by exact hc7.size); clear c_a0_0 c_a0_1 c_a0_2 l_a0; clear c_r0_0 c_r0_1 l_r0; clear c_y0_0 c_y0_1 c_y0_2 l_y0; clear c_g0_0 c_g0_1 l_g0; replace B_a0 := Lib.hid (blk_in B_a0.out hc7); replace B_r0 := Lib.hid (blk_in B_r0.out hc7); replace B_y0 := Lib.hid (blk_in B_y0.out hc7); replace B_g0 := Lib.hid (blk_in B_g0.out hc7); replace o_r0 := Lib.hid (o_r0.out.below hc7); replace o_y0 := Lib.hid (o_y0.out.below hc7); replace o_g0 := Lib.hid (o_g0.out.below hc7); obtain ⟨a_z0, k_z0, rfl⟩ := o_z0.shape; have u_z0 := Lib.hid (show ∀ k, (Value.slice a_z0 (x0).code.length k_z0).ownBlock = some k → k < w7.heap.size from fun k e => (o_z0.lt k e).2); replace o_z0 := Lib.hid (OwnI.mono (lo' := w6.heap.size + 0) o_z0 (by first | exact Nat.le_refl _ | simp)); replace HB := Lib.hid (HB.out.trans (hc7.mono HB.out.size)); clear hc7 hb7; obtain ⟨c_a0_0, c_a0_1, c_a0_2⟩ := cells3 B_a0.out; have l_a0 := lt_of B_a0.out; obtain ⟨c_r0_0, c_r0_1⟩ := cells2 B_r0.out; have l_r0 := lt_of B_r0.out; obtain ⟨c_y0_0, c_y0_1, c_y0_2⟩ := cells3 B_y0.out; have l_y0 := lt_of B_y0.out; obtain ⟨c_g0_0, c_g0_1⟩ := cells2 B_g0.out; have l_g0 := lt_of B_g0.out) | (go_at_call 34; refine (eqPrg_ok _ _ x0 _ ⟨_, rfl, (o_y0.out.below (by first | exact Below.refl _ _ | exact (Below.refl _ _).drew | exact (Below.refl _ _).al _ | exact ((Below.refl _ _).al _).al _ | exact ((Below.refl _ _).al _).drew | exact ((Below.refl _ _).drew).al _ | exact (((Below.refl _ _).al _).al _).drew)).sl⟩ ⟨_, rfl, (o_z0.out.below (by first | exact Below.refl _ _ | exact (Below.refl _ _).drew | exact (Below.refl _ _).al _ | exact ((Below.refl _ _).al _).al _ | exact ((Below.refl _ _).al _).drew | exact ((Below.refl _ _).drew).al _ | exact (((Below.refl _ _).al _).al _).drew)).sl⟩).mono ?_; rintro e w8 ⟨rfl, hb8⟩; have hc8 : Below w7.heap.size w7 w8 := (by first | exact hb8 | exact cr_d hb8 | exact cr_1 hb8 | exact cr_2 hb8 | exact cr_1d hb8 | exact cr_2d hb8 | exact cr_d1 hb8); have s8 := Lib.hid (show w7.heap.size + 0 ≤ w8.heap.size from by exact hc8.size); clear c_a0_0 c_a0_1 c_a0_2 l_a0; clear c_r0_0 c_r0_1 l_r0; clear c_y0_0 c_y0_1 c_y0_2 l_y0; clear c_g0_0 c_g0_1 l_g0; replace B_a0 := Lib.hid (blk_in B_a0.out hc8); replace B_r0 := Lib.hid (blk_in B_r0.out hc8); replace B_y0 := Lib.hid (blk_in B_y0.out hc8); replace B_g0 := Lib.hid (blk_in B_g0.out hc8); replace o_r0 := Lib.hid (o_r0.out.below hc8); replace o_y0 := Lib.hid (o_y0.out.below hc8); replace o_g0 := Lib.hid (o_g0.out.below hc8); replace o_z0 := Lib.hid (o_z0.out.below hc8); replace HB := Lib.hid (HB.out.trans (hc8.mono HB.out.size)); clear hc8 hb8; obtain ⟨c_a0_0, c_a0_1, c_a0_2⟩ := cells3 B_a0.out; have l_a0 := lt_of B_a0.out; obtain ⟨c_r0_0, c_r0_1⟩ := cells2 B_r0.out; have l_r0 := lt_of B_r0.out; obtain ⟨c_y0_0, c_y0_1, c_y0_2⟩ := cells3 B_y0.out; have l_y0 := lt_of B_y0.out; obtain ⟨c_g0_0, c_g0_1⟩ := cells2 B_g0.out; have l_g0 := lt_of B_g0.out))
  all_goals
    clear o_z0 u_z0
    go_wp2_with fail
    refine (markPrg_any (w3.heap.size + 1) _ x0 (1) _ ⟨_, rfl, o_y0.out⟩ (by omega) (by have := HS0.out; omega) (by have := HS0.out; omega)).mono ?_
    rintro e w9 ⟨rfl, m_y0, hg⟩
    replace m_y0 := m_y0.c
    have hO := Out.of_grown (row := (Value.slice a_y0 (x0).code.length k_y0).ownBlock) hg (fun k e => ⟨(m_y0.lt k e).1, u_y0.out k e⟩)
    have s9 := Lib.hid (show w8.heap.size ≤ w9.heap.size from hg.size)
    clear c_a0_0 c_a0_1 c_a0_2 l_a0
    clear c_r0_0 c_r0_1 l_r0
    clear c_y0_0 c_y0_1 c_y0_2 l_y0
    clear c_g0_0 c_g0_1 l_g0
    replace B_a0 := Lib.hid (hO.blk B_a0.out (by have := s1.out; have := s2.out; have := s3.out; have := s4.out; have := s5.out; have := s6.out; have := s7.out; have := s8.out; omega))
    replace B_r0 := Lib.hid (hO.blk B_r0.out (by have := s1.out; have := s2.out; have := s3.out; have := s4.out; have := s5.out; have := s6.out; have := s7.out; have := s8.out; omega))
    replace B_y0 := Lib.hid (hO.blk B_y0.out (by have := s1.out; have := s2.out; have := s3.out; have := s4.out; have := s5.out; have := s6.out; have := s7.out; have := s8.out; omega))
    replace B_g0 := Lib.hid (hO.blk B_g0.out (by have := s1.out; have := s2.out; have := s3.out; have := s4.out; have := s5.out; have := s6.out; have := s7.out; have := s8.out; omega))
    replace o_r0 := Lib.hid (o_r0.out.out u_r0.out hO (by have := s1.out; have := s2.out; have := s3.out; have := s4.out; have := s5.out; have := s6.out; have := s7.out; have := s8.out; omega))
    replace o_g0 := Lib.hid (o_g0.out.out u_g0.out hO (by have := s1.out; have := s2.out; have := s3.out; have := s4.out; have := s5.out; have := s6.out; have := s7.out; have := s8.out; omega))
    replace HB := Lib.hid (hO.below HB.out HB.out.size (by have := s1.out; have := s2.out; have := s3.out; have := s4.out; have := s5.out; have := s6.out; have := s7.out; have := s8.out; omega))
    clear hg hO o_y0
    have o_y0 := Lib.hid m_y0
    clear m_y0
    obtain ⟨c_a0_0, c_a0_1, c_a0_2⟩ := cells3 B_a0.out
    have l_a0 := lt_of B_a0.out
    obtain ⟨c_r0_0, c_r0_1⟩ := cells2 B_r0.out
    have l_r0 := lt_of B_r0.out
    obtain ⟨c_y0_0, c_y0_1, c_y0_2⟩ := cells3 B_y0.out
    have l_y0 := lt_of B_y0.out
    obtain ⟨c_g0_0, c_g0_1⟩ := cells2 B_g0.out
    have l_g0 := lt_of B_g0.out
    have dk : decide (1 + 4 * (((x0).code.length : Nat) : Int) < 0) = false := decide_eq_false (by omega)
    go_wp2_with fail
    refine (eqAct_ok _ _ (newActorR0 x0) _ ⟨_, rfl, (o_g0.out.below (by first | exact Below.refl _ _ | exact (Below.refl _ _).drew | exact (Below.refl _ _).al _ | exact ((Below.refl _ _).al _).al _ | exact ((Below.refl _ _).al _).drew | exact ((Below.refl _ _).drew).al _ | exact (((Below.refl _ _).al _).al _).drew)).sl⟩ ⟨_, rfl, (o_r0.out.below (by first | exact Below.refl _ _ | exact (Below.refl _ _).drew | exact (Below.refl _ _).al _ | exact ((Below.refl _ _).al _).al _ | exact ((Below.refl _ _).al _).drew | exact ((Below.refl _ _).drew).al _ | exact (((Below.refl _ _).al _).al _).drew)).sl⟩).mono ?_
    rintro e w10 ⟨rfl, hb10⟩
    have hc10 : Below w9.heap.size w9 w10 := (by first | exact hb10 | exact cr_d hb10 | exact cr_1 hb10 | exact cr_2 hb10 | exact cr_1d hb10 | exact cr_2d hb10 | exact cr_d1 hb10)
    have s10 := Lib.hid (show w9.heap.size + 0 ≤ w10.heap.size from by exact hc10.size)
    clear c_a0_0 c_a0_1 c_a0_2 l_a0
    clear c_r0_0 c_r0_1 l_r0
    clear c_y0_0 c_y0_1 c_y0_2 l_y0
    clear c_g0_0 c_g0_1 l_g0
    replace B_a0 := Lib.hid (blk_in B_a0.out hc10)
    replace B_r0 := Lib.hid (blk_in B_r0.out hc10)
    replace B_y0 := Lib.hid (blk_in B_y0.out hc10)
    replace B_g0 := Lib.hid (blk_in B_g0.out hc10)
    replace o_r0 := Lib.hid (o_r0.out.below hc10)
    replace o_y0 := Lib.hid (o_y0.out.below hc10)
    replace o_g0 := Lib.hid (o_g0.out.below hc10)
    replace HB := Lib.hid (HB.out.trans (hc10.mono HB.out.size))
    clear hc10 hb10
    obtain ⟨c_a0_0, c_a0_1, c_a0_2⟩ := cells3 B_a0.out
    have l_a0 := lt_of B_a0.out
    obtain ⟨c_r0_0, c_r0_1⟩ := cells2 B_r0.out
    have l_r0 := lt_of B_r0.out
    obtain ⟨c_y0_0, c_y0_1, c_y0_2⟩ := cells3 B_y0.out
    have l_y0 := lt_of B_y0.out
    obtain ⟨c_g0_0, c_g0_1⟩ := cells2 B_g0.out
    have l_g0 := lt_of B_g0.out
    go_wp2_with fail
    refine (markAct_any (w4.heap.size + 1) _ (newActorR0 x0) (1) _ ⟨_, rfl, o_g0.out⟩ (by omega) (by have := newActor_len0 x0;  omega) (by have := newActor_len0 x0;  omega)).mono ?_
    rintro e w11 ⟨rfl, m_g0, hg⟩
    replace m_g0 := m_g0.c
    have hO := Out.of_grown (row := (Value.slice a_g0 ((newActorR0 x0)).regs.length k_g0).ownBlock) hg (fun k e => ⟨(m_g0.lt k e).1, u_g0.out k e⟩)
    have s11 := Lib.hid (show w10.heap.size ≤ w11.heap.size from hg.size)
    clear c_a0_0 c_a0_1 c_a0_2 l_a0
    clear c_r0_0 c_r0_1 l_r0
    clear c_y0_0 c_y0_1 c_y0_2 l_y0
    clear c_g0_0 c_g0_1 l_g0
    replace B_a0 := Lib.hid (hO.blk B_a0.out (by have := s1.out; have := s2.out; have := s3.out; have := s4.out; have := s5.out; have := s6.out; have := s7.out; have := s8.out; have := s9.out; have := s10.out; omega))
    replace B_r0 := Lib.hid (hO.blk B_r0.out (by have := s1.out; have := s2.out; have := s3.out; have := s4.out; have := s5.out; have := s6.out; have := s7.out; have := s8.out; have := s9.out; have := s10.out; omega))
    replace B_y0 := Lib.hid (hO.blk B_y0.out (by have := s1.out; have := s2.out; have := s3.out; have := s4.out; have := s5.out; have := s6.out; have := s7.out; have := s8.out; have := s9.out; have := s10.out; omega))
    replace B_g0 := Lib.hid (hO.blk B_g0.out (by have := s1.out; have := s2.out; have := s3.out; have := s4.out; have := s5.out; have := s6.out; have := s7.out; have := s8.out; have := s9.out; have := s10.out; omega))
    replace o_r0 := Lib.hid (o_r0.out.out u_r0.out hO (by have := s1.out; have := s2.out; have := s3.out; have := s4.out; have := s5.out; have := s6.out; have := s7.out; have := s8.out; have := s9.out; have := s10.out; omega))
    replace o_y0 := Lib.hid (o_y0.out.out u_y0.out hO (by have := s1.out; have := s2.out; have := s3.out; have := s4.out; have := s5.out; have := s6.out; have := s7.out; have := s8.out; have := s9.out; have := s10.out; omega))
    replace HB := Lib.hid (hO.below HB.out HB.out.size (by have := s1.out; have := s2.out; have := s3.out; have := s4.out; have := s5.out; have := s6.out; have := s7.out; have := s8.out; have := s9.out; have := s10.out; omega))
    clear hg hO o_g0
    have o_g0 := Lib.hid m_g0
    clear m_g0
    obtain ⟨c_a0_0, c_a0_1, c_a0_2⟩ := cells3 B_a0.out
    have l_a0 := lt_of B_a0.out
    obtain ⟨c_r0_0, c_r0_1⟩ := cells2 B_r0.out
    have l_r0 := lt_of B_r0.out
    obtain ⟨c_y0_0, c_y0_1, c_y0_2⟩ := cells3 B_y0.out
    have l_y0 := lt_of B_y0.out
    obtain ⟨c_g0_0, c_g0_1⟩ := cells2 B_g0.out
    have l_g0 := lt_of B_g0.out
    have dq0_11 : decide (1 + ((((newActorR0 x0)).regs.length : Nat) : Int) < 0) = false := decide_eq_false (by omega)
    go_wp2_with fail
    refine (heldAct_any _ (newActorR0 x0).pc (1) (((newActorR0 x0)).regs.length) _ ⟨_, rfl, (o_g0.out.below (by first | exact Below.refl _ _ | exact (Below.refl _ _).drew | exact (Below.refl _ _).al _ | exact ((Below.refl _ _).al _).al _ | exact ((Below.refl _ _).al _).drew | exact ((Below.refl _ _).drew).al _ | exact (((Below.refl _ _).al _).al _).drew)).sl⟩ (by omega) (by have := newActor_len0 x0;  omega) (by have := newActor_len0 x0;  omega)).mono ?_
    rintro e w12 ⟨rfl, hb12⟩
    have hc12 : Below w11.heap.size w11 w12 := (by first | exact hb12 | exact cr_d hb12 | exact cr_1 hb12 | exact cr_2 hb12 | exact cr_1d hb12 | exact cr_2d hb12 | exact cr_d1 hb12)
    have s12 := Lib.hid (show w11.heap.size + 0 ≤ w12.heap.size from by exact hc12.size)
    clear c_a0_0 c_a0_1 c_a0_2 l_a0
    clear c_r0_0 c_r0_1 l_r0
    clear c_y0_0 c_y0_1 c_y0_2 l_y0
    clear c_g0_0 c_g0_1 l_g0
    replace B_a0 := Lib.hid (blk_in B_a0.out hc12)
    replace B_r0 := Lib.hid (blk_in B_r0.out hc12)
    replace B_y0 := Lib.hid (blk_in B_y0.out hc12)
    replace B_g0 := Lib.hid (blk_in B_g0.out hc12)
    replace o_r0 := Lib.hid (o_r0.out.below hc12)
    replace o_y0 := Lib.hid (o_y0.out.below hc12)
    replace o_g0 := Lib.hid (o_g0.out.below hc12)
    replace HB := Lib.hid (HB.out.trans (hc12.mono HB.out.size))
    clear hc12 hb12
    obtain ⟨c_a0_0, c_a0_1, c_a0_2⟩ := cells3 B_a0.out
    have l_a0 := lt_of B_a0.out
    obtain ⟨c_r0_0, c_r0_1⟩ := cells2 B_r0.out
    have l_r0 := lt_of B_r0.out
    obtain ⟨c_y0_0, c_y0_1, c_y0_2⟩ := cells3 B_y0.out
    have l_y0 := lt_of B_y0.out
    obtain ⟨c_g0_0, c_g0_1⟩ := cells2 B_g0.out
    have l_g0 := lt_of B_g0.out
    go_wp2_with fail
    refine (toPrg_any _ x0 _ ⟨_, rfl, HA0.out.below (bl2 HB.out (by first | exact Below.refl _ _ | exact (Below.refl _ _).drew | exact (Below.refl _ _).al _ | exact ((Below.refl _ _).al _).al _ | exact ((Below.refl _ _).al _).drew | exact ((Below.refl _ _).drew).al _ | exact (((Below.refl _ _).al _).al _).drew))⟩ HS0.out).mono ?_
    rintro e w13 ⟨v_q0, rfl, ⟨c_q0, rfl, o_q0⟩, hb13⟩
    have hc13 : Below w12.heap.size w12 w13 := (by first | exact hb13 | exact cr_d hb13 | exact cr_1 hb13 | exact cr_2 hb13 | exact cr_1d hb13 | exact cr_2d hb13 | exact cr_d1 hb13)
    have s13 := Lib.hid (show w12.heap.size + 0 ≤ w13.heap.size from by exact hc13.size)
    clear c_a0_0 c_a0_1 c_a0_2 l_a0
    clear c_r0_0 c_r0_1 l_r0
    clear c_y0_0 c_y0_1 c_y0_2 l_y0
    clear c_g0_0 c_g0_1 l_g0
    replace B_a0 := Lib.hid (blk_in B_a0.out hc13)
    replace B_r0 := Lib.hid (blk_in B_r0.out hc13)
    replace B_y0 := Lib.hid (blk_in B_y0.out hc13)
    replace B_g0 := Lib.hid (blk_in B_g0.out hc13)
    replace o_r0 := Lib.hid (o_r0.out.below hc13)
    replace o_y0 := Lib.hid (o_y0.out.below hc13)
    replace o_g0 := Lib.hid (o_g0.out.below hc13)
    obtain ⟨a_q0, k_q0, rfl⟩ := o_q0.shape
    have u_q0 := Lib.hid (show ∀ k, (Value.slice a_q0 (x0).code.length k_q0).ownBlock = some k → k < w13.heap.size from fun k e => (o_q0.lt k e).2)
    replace o_q0 := Lib.hid (OwnI.mono (lo' := w12.heap.size + 0) o_q0 (by first | exact Nat.le_refl _ | simp))
    replace HB := Lib.hid (HB.out.trans (hc13.mono HB.out.size))
    clear hc13 hb13
    obtain ⟨c_a0_0, c_a0_1, c_a0_2⟩ := cells3 B_a0.out
    have l_a0 := lt_of B_a0.out
    obtain ⟨c_r0_0, c_r0_1⟩ := cells2 B_r0.out
    have l_r0 := lt_of B_r0.out
    obtain ⟨c_y0_0, c_y0_1, c_y0_2⟩ := cells3 B_y0.out
    have l_y0 := lt_of B_y0.out
    obtain ⟨c_g0_0, c_g0_1⟩ := cells2 B_g0.out
    have l_g0 := lt_of B_g0.out
    go_wp2_with fail
    refine (inew_any _ x0 _ ⟨_, rfl, (o_q0.out.below (by first | exact Below.refl _ _ | exact (Below.refl _ _).drew | exact (Below.refl _ _).al _ | exact ((Below.refl _ _).al _).al _ | exact ((Below.refl _ _).al _).drew | exact ((Below.refl _ _).drew).al _ | exact (((Below.refl _ _).al _).al _).drew)).sl⟩).mono ?_
    rintro e w14 ⟨v_k0, rfl, ⟨c_k0, rfl, o_k0⟩, hb14⟩
    have hc14 : Below w13.heap.size w13 w14 := (by first | exact hb14 | exact cr_d hb14 | exact cr_1 hb14 | exact cr_2 hb14 | exact cr_1d hb14 | exact cr_2d hb14 | exact cr_d1 hb14)
    have s14 := Lib.hid (show w13.heap.size + 0 ≤ w14.heap.size from by exact hc14.size)
    clear c_a0_0 c_a0_1 c_a0_2 l_a0
    clear c_r0_0 c_r0_1 l_r0
    clear c_y0_0 c_y0_1 c_y0_2 l_y0
    clear c_g0_0 c_g0_1 l_g0
    replace B_a0 := Lib.hid (blk_in B_a0.out hc14)
    replace B_r0 := Lib.hid (blk_in B_r0.out hc14)
    replace B_y0 := Lib.hid (blk_in B_y0.out hc14)
    replace B_g0 := Lib.hid (blk_in B_g0.out hc14)
    replace o_r0 := Lib.hid (o_r0.out.below hc14)
    replace o_y0 := Lib.hid (o_y0.out.below hc14)
    replace o_g0 := Lib.hid (o_g0.out.below hc14)
    replace o_q0 := Lib.hid (o_q0.out.below hc14)
    obtain ⟨a_k0, k_k0, rfl⟩ := o_k0.shape
    have u_k0 := Lib.hid (show ∀ k, (Value.slice a_k0 ((newActorR0 x0)).regs.length k_k0).ownBlock = some k → k < w14.heap.size from fun k e => (o_k0.lt k e).2)
    replace o_k0 := Lib.hid (Own.mono (lo' := w13.heap.size + 0) o_k0 (by first | exact Nat.le_refl _ | simp))
    replace HB := Lib.hid (HB.out.trans (hc14.mono HB.out.size))
    clear hc14 hb14
    obtain ⟨c_a0_0, c_a0_1, c_a0_2⟩ := cells3 B_a0.out
    have l_a0 := lt_of B_a0.out
    obtain ⟨c_r0_0, c_r0_1⟩ := cells2 B_r0.out
    have l_r0 := lt_of B_r0.out
    obtain ⟨c_y0_0, c_y0_1, c_y0_2⟩ := cells3 B_y0.out
    have l_y0 := lt_of B_y0.out
    obtain ⟨c_g0_0, c_g0_1⟩ := cells2 B_g0.out
    have l_g0 := lt_of B_g0.out
    clear o_q0 u_q0
    go_wp2_with fail
    refine (eqAct_ok _ _ (newActorR0 x0) _ ⟨_, rfl, (o_k0.out.below (by first | exact Below.refl _ _ | exact (Below.refl _ _).drew | exact (Below.refl _ _).al _ | exact ((Below.refl _ _).al _).al _ | exact ((Below.refl _ _).al _).drew | exact ((Below.refl _ _).drew).al _ | exact (((Below.refl _ _).al _).al _).drew)).sl⟩ ⟨_, rfl, (o_r0.out.below (by first | exact Below.refl _ _ | exact (Below.refl _ _).drew | exact (Below.refl _ _).al _ | exact ((Below.refl _ _).al _).al _ | exact ((Below.refl _ _).al _).drew | exact ((Below.refl _ _).drew).al _ | exact (((Below.refl _ _).al _).al _).drew)).sl⟩).mono ?_
    rintro e w15 ⟨rfl, hb15⟩
    have hc15 : Below w14.heap.size w14 w15 := (by first | exact hb15 | exact cr_d hb15 | exact cr_1 hb15 | exact cr_2 hb15 | exact cr_1d hb15 | exact cr_2d hb15 | exact cr_d1 hb15)
    have s15 := Lib.hid (show w14.heap.size + 1 ≤ w15.heap.size from by have := hb15.size; simp at this; omega)
    clear c_a0_0 c_a0_1 c_a0_2 l_a0
    clear c_r0_0 c_r0_1 l_r0
    clear c_y0_0 c_y0_1 c_y0_2 l_y0
    clear c_g0_0 c_g0_1 l_g0
    replace B_a0 := Lib.hid (blk_in B_a0.out hc15)
    replace B_r0 := Lib.hid (blk_in B_r0.out hc15)
    replace B_y0 := Lib.hid (blk_in B_y0.out hc15)
    replace B_g0 := Lib.hid (blk_in B_g0.out hc15)
    have B_k0 := Lib.hid (show w15.heap[w14.heap.size]? = some (.cells #[.int .i64 ((newActorR0 x0)).pc, (Value.slice a_k0 ((newActorR0 x0)).regs.length k_k0)] 43) from blk_in (hp1 _ _) hb15)
    replace o_r0 := Lib.hid (o_r0.out.below hc15)
    replace o_y0 := Lib.hid (o_y0.out.below hc15)
    replace o_g0 := Lib.hid (o_g0.out.below hc15)
    replace o_k0 := Lib.hid (o_k0.out.below hc15)
    replace HB := Lib.hid (HB.out.trans (hc15.mono HB.out.size))
    clear hc15 hb15
    obtain ⟨c_a0_0, c_a0_1, c_a0_2⟩ := cells3 B_a0.out
    have l_a0 := lt_of B_a0.out
    obtain ⟨c_r0_0, c_r0_1⟩ := cells2 B_r0.out
    have l_r0 := lt_of B_r0.out
    obtain ⟨c_y0_0, c_y0_1, c_y0_2⟩ := cells3 B_y0.out
    have l_y0 := lt_of B_y0.out
    obtain ⟨c_g0_0, c_g0_1⟩ := cells2 B_g0.out
    have l_g0 := lt_of B_g0.out
    obtain ⟨c_k0_0, c_k0_1⟩ := cells2 B_k0.out
    have l_k0 := lt_of B_k0.out
    have dq0_15 : decide (1 + ((((newActorR0 x0)).regs.length : Nat) : Int) < 0) = false := decide_eq_false (by omega)
    go_wp2_with fail
    refine (heldAct_any _ (newActorR0 x0).pc (1) (((newActorR0 x0)).regs.length) _ ⟨_, rfl, (o_g0.out.below (by first | exact Below.refl _ _ | exact (Below.refl _ _).drew | exact (Below.refl _ _).al _ | exact ((Below.refl _ _).al _).al _ | exact ((Below.refl _ _).al _).drew | exact ((Below.refl _ _).drew).al _ | exact (((Below.refl _ _).al _).al _).drew)).sl⟩ (by omega) (by have := newActor_len0 x0;  omega) (by have := newActor_len0 x0;  omega)).mono ?_
    rintro e w16 ⟨rfl, hb16⟩
    have hc16 : Below w15.heap.size w15 w16 := (by first | exact hb16 | exact cr_d hb16 | exact cr_1 hb16 | exact cr_2 hb16 | exact cr_1d hb16 | exact cr_2d hb16 | exact cr_d1 hb16)
    have s16 := Lib.hid (show w15.heap.size + 0 ≤ w16.heap.size from by exact hc16.size)
    clear c_a0_0 c_a0_1 c_a0_2 l_a0
    clear c_r0_0 c_r0_1 l_r0
    clear c_y0_0 c_y0_1 c_y0_2 l_y0
    clear c_g0_0 c_g0_1 l_g0
    clear c_k0_0 c_k0_1 l_k0
    replace B_a0 := Lib.hid (blk_in B_a0.out hc16)
    replace B_r0 := Lib.hid (blk_in B_r0.out hc16)
    replace B_y0 := Lib.hid (blk_in B_y0.out hc16)
    replace B_g0 := Lib.hid (blk_in B_g0.out hc16)
    replace B_k0 := Lib.hid (blk_in B_k0.out hc16)
    replace o_r0 := Lib.hid (o_r0.out.below hc16)
    replace o_y0 := Lib.hid (o_y0.out.below hc16)
    replace o_g0 := Lib.hid (o_g0.out.below hc16)
    replace o_k0 := Lib.hid (o_k0.out.below hc16)
    replace HB := Lib.hid (HB.out.trans (hc16.mono HB.out.size))
    clear hc16 hb16
    obtain ⟨c_a0_0, c_a0_1, c_a0_2⟩ := cells3 B_a0.out
    have l_a0 := lt_of B_a0.out
    obtain ⟨c_r0_0, c_r0_1⟩ := cells2 B_r0.out
    have l_r0 := lt_of B_r0.out
    obtain ⟨c_y0_0, c_y0_1, c_y0_2⟩ := cells3 B_y0.out
    have l_y0 := lt_of B_y0.out
    obtain ⟨c_g0_0, c_g0_1⟩ := cells2 B_g0.out
    have l_g0 := lt_of B_g0.out
    obtain ⟨c_k0_0, c_k0_1⟩ := cells2 B_k0.out
    have l_k0 := lt_of B_k0.out
    go_wp2_with fail
    go_ret
    exact ⟨rfl, HB.out⟩

end Go.Proofs.Ytamhbjmljgkfpaa
