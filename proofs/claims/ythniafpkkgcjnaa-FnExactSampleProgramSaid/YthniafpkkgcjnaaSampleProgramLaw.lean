/-
  The walk of the law FnExactSampleProgram: it answers true and changes nothing that was there.
-/
import Derived.Test.YthniafpkkgcjnaaSSamp
import Derived.Deep.Cut
namespace Go.Proofs.Ythniafpkkgcjnaa
open Go.RowKit

set_option maxRecDepth 100000 in
set_option maxHeartbeats 40000000 in
theorem fnExactSampleProgram_walk (x0 : ByteArray) (w : World)  :
    Calls Try.prog 10 #[.string x0] w fun e w' => e = .returned (.bool true) ∧ Below w.heap.size w w' := by
  have HB := Lib.hid (Below.refl w.heap.size w)
  go_enter Try.func10, Try.ntmps10
  by_cases z0 : x0.size ≤ 1048576
  case neg =>
    have d : decide ((x0.size : Int) > 1048576) = true := decide_eq_true (by omega)
    have d' : decide (1048576 < (x0.size : Int)) = true := decide_eq_true (by omega)
    go_wp2_with fail
    go_ret
    exact ⟨rfl, HB.out⟩
  have d0s : decide ((x0.size : Int) > 1048576) = false := decide_eq_false (by omega)
  have d0t : decide (1048576 < (x0.size : Int)) = false := decide_eq_false (by omega)
  have HL0 := Lib.hid (show (0 : Int) ≤ 1048576 ∧ (1048576 : Int) ≤ 1048576 by omega)
  go_wp2_with fail
  refine (ssample_any x0 _ ).mono ?_
  rintro e w1 ⟨v_r0, rfl, ⟨c_r0, rfl, o_r0⟩, hb1⟩
  have hc1 : Below w.heap.size w w1 := (by first | exact hb1 | exact cr_d hb1 | exact cr_1 hb1 | exact cr_2 hb1 | exact cr_1d hb1 | exact cr_2d hb1 | exact cr_d1 hb1)
  have s1 := Lib.hid (show w.heap.size + 0 ≤ w1.heap.size from by exact hc1.size)
  obtain ⟨a_r0, k_r0, rfl⟩ := o_r0.shape
  have u_r0 := Lib.hid (show ∀ k, (Value.slice a_r0 ((sampleProgramR0 x0)).code.length k_r0).ownBlock = some k → k < w1.heap.size from fun k e => (o_r0.lt k e).2)
  replace o_r0 := Lib.hid (OwnI.mono (lo' := w.heap.size + 0) o_r0 (by first | exact Nat.le_refl _ | simp))
  replace HB := Lib.hid (HB.out.trans (hc1.mono HB.out.size))
  clear hc1 hb1
  go_wp2_with fail
  refine (isample_any x0 _ ).mono ?_
  rintro e w2 ⟨v_g0, rfl, ⟨c_g0, rfl, o_g0⟩, hb2⟩
  have hc2 : Below w1.heap.size w1 w2 := (by first | exact hb2 | exact cr_d hb2 | exact cr_1 hb2 | exact cr_2 hb2 | exact cr_1d hb2 | exact cr_2d hb2 | exact cr_d1 hb2)
  have s2 := Lib.hid (show w1.heap.size + 1 ≤ w2.heap.size from by have := hb2.size; simp at this; omega)
  have B_r0 := Lib.hid (show w2.heap[w1.heap.size]? = some (.cells #[.int .i64 ((sampleProgramR0 x0)).ins, .int .i64 ((sampleProgramR0 x0)).outs, (Value.slice a_r0 ((sampleProgramR0 x0)).code.length k_r0)] 31) from blk_in (hp1 _ _) hb2)
  replace o_r0 := Lib.hid (o_r0.out.below hc2)
  obtain ⟨a_g0, k_g0, rfl⟩ := o_g0.shape
  have u_g0 := Lib.hid (show ∀ k, (Value.slice a_g0 ((sampleProgramR0 x0)).code.length k_g0).ownBlock = some k → k < w2.heap.size from fun k e => (o_g0.lt k e).2)
  replace o_g0 := Lib.hid (OwnI.mono (lo' := w1.heap.size + 1) o_g0 (by first | exact Nat.le_refl _ | simp))
  replace HB := Lib.hid (HB.out.trans (hc2.mono HB.out.size))
  clear hc2 hb2
  obtain ⟨c_r0_0, c_r0_1, c_r0_2⟩ := cells3 B_r0.out
  have l_r0 := lt_of B_r0.out
  go_wp2_with fail
  refine (eqPrg_ok _ _ (sampleProgramR0 x0) _ ⟨_, rfl, (o_g0.out.below (by first | exact Below.refl _ _ | exact (Below.refl _ _).drew | exact (Below.refl _ _).al _ | exact ((Below.refl _ _).al _).al _ | exact ((Below.refl _ _).al _).drew | exact ((Below.refl _ _).drew).al _ | exact (((Below.refl _ _).al _).al _).drew)).sl⟩ ⟨_, rfl, (o_r0.out.below (by first | exact Below.refl _ _ | exact (Below.refl _ _).drew | exact (Below.refl _ _).al _ | exact ((Below.refl _ _).al _).al _ | exact ((Below.refl _ _).al _).drew | exact ((Below.refl _ _).drew).al _ | exact (((Below.refl _ _).al _).al _).drew)).sl⟩).mono ?_
  rintro e w3 ⟨rfl, hb3⟩
  have hc3 : Below w2.heap.size w2 w3 := (by first | exact hb3 | exact cr_d hb3 | exact cr_1 hb3 | exact cr_2 hb3 | exact cr_1d hb3 | exact cr_2d hb3 | exact cr_d1 hb3)
  have s3 := Lib.hid (show w2.heap.size + 1 ≤ w3.heap.size from by have := hb3.size; simp at this; omega)
  clear c_r0_0 c_r0_1 c_r0_2 l_r0
  replace B_r0 := Lib.hid (blk_in B_r0.out hc3)
  have B_g0 := Lib.hid (show w3.heap[w2.heap.size]? = some (.cells #[.int .i64 ((sampleProgramR0 x0)).ins, .int .i64 ((sampleProgramR0 x0)).outs, (Value.slice a_g0 ((sampleProgramR0 x0)).code.length k_g0)] 31) from blk_in (hp1 _ _) hb3)
  replace o_r0 := Lib.hid (o_r0.out.below hc3)
  replace o_g0 := Lib.hid (o_g0.out.below hc3)
  replace HB := Lib.hid (HB.out.trans (hc3.mono HB.out.size))
  clear hc3 hb3
  obtain ⟨c_r0_0, c_r0_1, c_r0_2⟩ := cells3 B_r0.out
  have l_r0 := lt_of B_r0.out
  obtain ⟨c_g0_0, c_g0_1, c_g0_2⟩ := cells3 B_g0.out
  have l_g0 := lt_of B_g0.out
  go_wp2_with fail
  refine (markPrg_any (w1.heap.size + 1) _ (sampleProgramR0 x0) (1) _ ⟨_, rfl, o_g0.out⟩ (by omega) (by have := sampleProgram_len0 x0;  omega) (by have := sampleProgram_len0 x0;  omega)).mono ?_
  rintro e w4 ⟨rfl, m_g0, hg⟩
  replace m_g0 := m_g0.c
  have hO := Out.of_grown (row := (Value.slice a_g0 ((sampleProgramR0 x0)).code.length k_g0).ownBlock) hg (fun k e => ⟨(m_g0.lt k e).1, u_g0.out k e⟩)
  have s4 := Lib.hid (show w3.heap.size ≤ w4.heap.size from hg.size)
  clear c_r0_0 c_r0_1 c_r0_2 l_r0
  clear c_g0_0 c_g0_1 c_g0_2 l_g0
  replace B_r0 := Lib.hid (hO.blk B_r0.out (by have := s1.out; have := s2.out; have := s3.out; omega))
  replace B_g0 := Lib.hid (hO.blk B_g0.out (by have := s1.out; have := s2.out; have := s3.out; omega))
  replace o_r0 := Lib.hid (o_r0.out.out u_r0.out hO (by have := s1.out; have := s2.out; have := s3.out; omega))
  replace HB := Lib.hid (hO.below HB.out HB.out.size (by have := s1.out; have := s2.out; have := s3.out; omega))
  clear hg hO o_g0
  have o_g0 := Lib.hid m_g0
  clear m_g0
  obtain ⟨c_r0_0, c_r0_1, c_r0_2⟩ := cells3 B_r0.out
  have l_r0 := lt_of B_r0.out
  obtain ⟨c_g0_0, c_g0_1, c_g0_2⟩ := cells3 B_g0.out
  have l_g0 := lt_of B_g0.out
  have dq0_4 : decide (1 + 4 * ((((sampleProgramR0 x0)).code.length : Nat) : Int) < 0) = false := decide_eq_false (by omega)
  go_wp2_with fail
  refine (heldPrg_any _ (sampleProgramR0 x0).ins (sampleProgramR0 x0).outs (1) (((sampleProgramR0 x0)).code.length) _ ⟨_, rfl, (o_g0.out.below (by first | exact Below.refl _ _ | exact (Below.refl _ _).drew | exact (Below.refl _ _).al _ | exact ((Below.refl _ _).al _).al _ | exact ((Below.refl _ _).al _).drew | exact ((Below.refl _ _).drew).al _ | exact (((Below.refl _ _).al _).al _).drew)).sl⟩ (by omega) (by have := sampleProgram_len0 x0;  omega) (by have := sampleProgram_len0 x0;  omega)).mono ?_
  rintro e w5 ⟨rfl, hb5⟩
  have hc5 : Below w4.heap.size w4 w5 := (by first | exact hb5 | exact cr_d hb5 | exact cr_1 hb5 | exact cr_2 hb5 | exact cr_1d hb5 | exact cr_2d hb5 | exact cr_d1 hb5)
  have s5 := Lib.hid (show w4.heap.size + 0 ≤ w5.heap.size from by exact hc5.size)
  clear c_r0_0 c_r0_1 c_r0_2 l_r0
  clear c_g0_0 c_g0_1 c_g0_2 l_g0
  replace B_r0 := Lib.hid (blk_in B_r0.out hc5)
  replace B_g0 := Lib.hid (blk_in B_g0.out hc5)
  replace o_r0 := Lib.hid (o_r0.out.below hc5)
  replace o_g0 := Lib.hid (o_g0.out.below hc5)
  replace HB := Lib.hid (HB.out.trans (hc5.mono HB.out.size))
  clear hc5 hb5
  obtain ⟨c_r0_0, c_r0_1, c_r0_2⟩ := cells3 B_r0.out
  have l_r0 := lt_of B_r0.out
  obtain ⟨c_g0_0, c_g0_1, c_g0_2⟩ := cells3 B_g0.out
  have l_g0 := lt_of B_g0.out
  go_wp2_with fail
  refine (isample_any x0 _ ).mono ?_
  rintro e w6 ⟨v_k0, rfl, ⟨c_k0, rfl, o_k0⟩, hb6⟩
  have hc6 : Below w5.heap.size w5 w6 := (by first | exact hb6 | exact cr_d hb6 | exact cr_1 hb6 | exact cr_2 hb6 | exact cr_1d hb6 | exact cr_2d hb6 | exact cr_d1 hb6)
  have s6 := Lib.hid (show w5.heap.size + 0 ≤ w6.heap.size from by exact hc6.size)
  clear c_r0_0 c_r0_1 c_r0_2 l_r0
  clear c_g0_0 c_g0_1 c_g0_2 l_g0
  replace B_r0 := Lib.hid (blk_in B_r0.out hc6)
  replace B_g0 := Lib.hid (blk_in B_g0.out hc6)
  replace o_r0 := Lib.hid (o_r0.out.below hc6)
  replace o_g0 := Lib.hid (o_g0.out.below hc6)
  obtain ⟨a_k0, k_k0, rfl⟩ := o_k0.shape
  have u_k0 := Lib.hid (show ∀ k, (Value.slice a_k0 ((sampleProgramR0 x0)).code.length k_k0).ownBlock = some k → k < w6.heap.size from fun k e => (o_k0.lt k e).2)
  replace o_k0 := Lib.hid (OwnI.mono (lo' := w5.heap.size + 0) o_k0 (by first | exact Nat.le_refl _ | simp))
  replace HB := Lib.hid (HB.out.trans (hc6.mono HB.out.size))
  clear hc6 hb6
  obtain ⟨c_r0_0, c_r0_1, c_r0_2⟩ := cells3 B_r0.out
  have l_r0 := lt_of B_r0.out
  obtain ⟨c_g0_0, c_g0_1, c_g0_2⟩ := cells3 B_g0.out
  have l_g0 := lt_of B_g0.out
  go_wp2_with fail
  refine (eqPrg_ok _ _ (sampleProgramR0 x0) _ ⟨_, rfl, (o_k0.out.below (by first | exact Below.refl _ _ | exact (Below.refl _ _).drew | exact (Below.refl _ _).al _ | exact ((Below.refl _ _).al _).al _ | exact ((Below.refl _ _).al _).drew | exact ((Below.refl _ _).drew).al _ | exact (((Below.refl _ _).al _).al _).drew)).sl⟩ ⟨_, rfl, (o_r0.out.below (by first | exact Below.refl _ _ | exact (Below.refl _ _).drew | exact (Below.refl _ _).al _ | exact ((Below.refl _ _).al _).al _ | exact ((Below.refl _ _).al _).drew | exact ((Below.refl _ _).drew).al _ | exact (((Below.refl _ _).al _).al _).drew)).sl⟩).mono ?_
  rintro e w7 ⟨rfl, hb7⟩
  have hc7 : Below w6.heap.size w6 w7 := (by first | exact hb7 | exact cr_d hb7 | exact cr_1 hb7 | exact cr_2 hb7 | exact cr_1d hb7 | exact cr_2d hb7 | exact cr_d1 hb7)
  have s7 := Lib.hid (show w6.heap.size + 1 ≤ w7.heap.size from by have := hb7.size; simp at this; omega)
  clear c_r0_0 c_r0_1 c_r0_2 l_r0
  clear c_g0_0 c_g0_1 c_g0_2 l_g0
  replace B_r0 := Lib.hid (blk_in B_r0.out hc7)
  replace B_g0 := Lib.hid (blk_in B_g0.out hc7)
  have B_k0 := Lib.hid (show w7.heap[w6.heap.size]? = some (.cells #[.int .i64 ((sampleProgramR0 x0)).ins, .int .i64 ((sampleProgramR0 x0)).outs, (Value.slice a_k0 ((sampleProgramR0 x0)).code.length k_k0)] 31) from blk_in (hp1 _ _) hb7)
  replace o_r0 := Lib.hid (o_r0.out.below hc7)
  replace o_g0 := Lib.hid (o_g0.out.below hc7)
  replace o_k0 := Lib.hid (o_k0.out.below hc7)
  replace HB := Lib.hid (HB.out.trans (hc7.mono HB.out.size))
  clear hc7 hb7
  obtain ⟨c_r0_0, c_r0_1, c_r0_2⟩ := cells3 B_r0.out
  have l_r0 := lt_of B_r0.out
  obtain ⟨c_g0_0, c_g0_1, c_g0_2⟩ := cells3 B_g0.out
  have l_g0 := lt_of B_g0.out
  obtain ⟨c_k0_0, c_k0_1, c_k0_2⟩ := cells3 B_k0.out
  have l_k0 := lt_of B_k0.out
  have dq0_7 : decide (1 + 4 * ((((sampleProgramR0 x0)).code.length : Nat) : Int) < 0) = false := decide_eq_false (by omega)
  go_wp2_with fail
  refine (heldPrg_any _ (sampleProgramR0 x0).ins (sampleProgramR0 x0).outs (1) (((sampleProgramR0 x0)).code.length) _ ⟨_, rfl, (o_g0.out.below (by first | exact Below.refl _ _ | exact (Below.refl _ _).drew | exact (Below.refl _ _).al _ | exact ((Below.refl _ _).al _).al _ | exact ((Below.refl _ _).al _).drew | exact ((Below.refl _ _).drew).al _ | exact (((Below.refl _ _).al _).al _).drew)).sl⟩ (by omega) (by have := sampleProgram_len0 x0;  omega) (by have := sampleProgram_len0 x0;  omega)).mono ?_
  rintro e w8 ⟨rfl, hb8⟩
  have hc8 : Below w7.heap.size w7 w8 := (by first | exact hb8 | exact cr_d hb8 | exact cr_1 hb8 | exact cr_2 hb8 | exact cr_1d hb8 | exact cr_2d hb8 | exact cr_d1 hb8)
  have s8 := Lib.hid (show w7.heap.size + 0 ≤ w8.heap.size from by exact hc8.size)
  clear c_r0_0 c_r0_1 c_r0_2 l_r0
  clear c_g0_0 c_g0_1 c_g0_2 l_g0
  clear c_k0_0 c_k0_1 c_k0_2 l_k0
  replace B_r0 := Lib.hid (blk_in B_r0.out hc8)
  replace B_g0 := Lib.hid (blk_in B_g0.out hc8)
  replace B_k0 := Lib.hid (blk_in B_k0.out hc8)
  replace o_r0 := Lib.hid (o_r0.out.below hc8)
  replace o_g0 := Lib.hid (o_g0.out.below hc8)
  replace o_k0 := Lib.hid (o_k0.out.below hc8)
  replace HB := Lib.hid (HB.out.trans (hc8.mono HB.out.size))
  clear hc8 hb8
  obtain ⟨c_r0_0, c_r0_1, c_r0_2⟩ := cells3 B_r0.out
  have l_r0 := lt_of B_r0.out
  obtain ⟨c_g0_0, c_g0_1, c_g0_2⟩ := cells3 B_g0.out
  have l_g0 := lt_of B_g0.out
  obtain ⟨c_k0_0, c_k0_1, c_k0_2⟩ := cells3 B_k0.out
  have l_k0 := lt_of B_k0.out
  go_wp2_with fail
  go_ret
  exact ⟨rfl, HB.out⟩

end Go.Proofs.Ythniafpkkgcjnaa
