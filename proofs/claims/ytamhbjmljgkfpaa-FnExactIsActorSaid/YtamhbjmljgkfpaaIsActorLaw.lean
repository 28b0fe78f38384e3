/-
  The walk of the law FnExactIsActor: it answers true and changes nothing that was there.
-/
import Derived.Test.YtamhbjmljgkfpaaActs
import Derived.Deep.Cut
namespace Go.Proofs.Ytamhbjmljgkfpaa
open Go.RowKit

set_option maxRecDepth 100000 in
set_option maxHeartbeats 40000000 in
theorem fnExactIsActor_walk (v0 : Value) (x0 : Prg) (v1 : Value) (x1 : Act) (w : World) (h0 : PrgV w v0 x0) (h1 : ActV w v1 x1) :
    Calls Try.prog 9 #[v0, v1] w fun e w' => e = .returned (.bool true) ∧ Below w.heap.size w w' := by
  obtain ⟨c0, rfl, H0⟩ := h0
  have HA0 := Lib.hid H0
  clear H0
  obtain ⟨c1, rfl, H1⟩ := h1
  have HA1 := Lib.hid H1
  clear H1
  have HB := Lib.hid (Below.refl w.heap.size w)
  go_enter Try.func9, Try.ntmps9
  have HL0 := Lib.hid (show (0 : Int) ≤ 1048576 ∧ (1048576 : Int) ≤ 1048576 by omega)
  go_wp2_with fail
  by_cases z0 : (((x0).code.length : Nat) : Int) ≤ 1048576
  case neg =>
    refine (szPrg_any _ x0 (1048576) _ ⟨_, rfl, HA0.out.below (bl2 HB.out (by first | exact Below.refl _ _ | exact (Below.refl _ _).drew | exact (Below.refl _ _).al _ | exact ((Below.refl _ _).al _).al _ | exact ((Below.refl _ _).al _).drew | exact ((Below.refl _ _).drew).al _ | exact (((Below.refl _ _).al _).al _).drew))⟩ HL0.out).mono ?_
    rintro e w1 ⟨rfl, hb⟩
    rw [if_neg z0]
    have hc : Below w.heap.size w w1 := by first | exact hb | exact cr_1 hb | exact cr_2 hb
    go_wp2_with fail
    go_ret
    exact ⟨rfl, HB.out.trans (hc.mono HB.out.size)⟩
  refine (szPrg_any _ x0 (1048576) _ ⟨_, rfl, HA0.out.below (bl2 HB.out (by first | exact Below.refl _ _ | exact (Below.refl _ _).drew | exact (Below.refl _ _).al _ | exact ((Below.refl _ _).al _).al _ | exact ((Below.refl _ _).al _).drew | exact ((Below.refl _ _).drew).al _ | exact (((Below.refl _ _).al _).al _).drew))⟩ HL0.out).mono ?_
  rintro e w1 ⟨rfl, hb1⟩
  rw [if_pos z0]
  obtain ⟨l1, hl⟩ : ∃ l : Int, l = 1048576 - (((x0).code.length : Nat) : Int) := ⟨_, rfl⟩
  rw [← hl]
  have HL1 := Lib.hid (show 0 ≤ l1 ∧ l1 ≤ 1048576 by have := HL0.out; omega)
  have HS0 := Lib.hid (show (x0).code.length ≤ 1048576 by have := HL0.out; omega)
  have d1 : decide (l1 < 0) = false := decide_eq_false (by have := HL1.out; omega)
  clear hl z0
  have hc1 : Below w.heap.size w w1 := (by first | exact hb1 | exact cr_d hb1 | exact cr_1 hb1 | exact cr_2 hb1 | exact cr_1d hb1 | exact cr_2d hb1 | exact cr_d1 hb1)
  have s1 := Lib.hid (show w.heap.size + 2 ≤ w1.heap.size from by have := hb1.size; simp at this; omega)
  have B_a0 := Lib.hid (show w1.heap[w.heap.size]? = some (.cells #[.int .i64 (x0).ins, .int .i64 (x0).outs, c0] 54) from blk_in (hp21 _ _ _) hb1)
  have B_a1 := Lib.hid (show w1.heap[w.heap.size + 1]? = some (.cells #[.int .i64 (x1).pc, c1] 63) from blk_in (hp2 _ _ _) hb1)
  replace HB := Lib.hid (HB.out.trans (hc1.mono HB.out.size))
  clear hc1 hb1
  obtain ⟨c_a0_0, c_a0_1, c_a0_2⟩ := cells3 B_a0.out
  have l_a0 := lt_of B_a0.out
  obtain ⟨c_a1_0, c_a1_1⟩ := cells2 B_a1.out
  have l_a1 := lt_of B_a1.out
  go_wp2_with fail
  by_cases z1 : (((x1).regs.length : Nat) : Int) ≤ l1
  case neg =>
    refine (szAct_any _ x1 (l1) _ ⟨_, rfl, HA1.out.below (bl2 HB.out (by first | exact Below.refl _ _ | exact (Below.refl _ _).drew | exact (Below.refl _ _).al _ | exact ((Below.refl _ _).al _).al _ | exact ((Below.refl _ _).al _).drew | exact ((Below.refl _ _).drew).al _ | exact (((Below.refl _ _).al _).al _).drew))⟩ HL1.out).mono ?_
    rintro e w2 ⟨rfl, hb⟩
    rw [if_neg z1]
    have hc : Below w1.heap.size w1 w2 := by first | exact hb | exact cr_1 hb | exact cr_2 hb
    go_wp2_with fail
    go_ret
    exact ⟨rfl, HB.out.trans (hc.mono HB.out.size)⟩
  refine (szAct_any _ x1 (l1) _ ⟨_, rfl, HA1.out.below (bl2 HB.out (by first | exact Below.refl _ _ | exact (Below.refl _ _).drew | exact (Below.refl _ _).al _ | exact ((Below.refl _ _).al _).al _ | exact ((Below.refl _ _).al _).drew | exact ((Below.refl _ _).drew).al _ | exact (((Below.refl _ _).al _).al _).drew))⟩ HL1.out).mono ?_
  rintro e w2 ⟨rfl, hb2⟩
  rw [if_pos z1]
  obtain ⟨l2, hl⟩ : ∃ l : Int, l = l1 - (((x1).regs.length : Nat) : Int) := ⟨_, rfl⟩
  rw [← hl]
  have HL2 := Lib.hid (show 0 ≤ l2 ∧ l2 ≤ 1048576 by have := HL1.out; omega)
  have HS1 := Lib.hid (show (x1).regs.length ≤ 1048576 by have := HL1.out; omega)
  have d2 : decide (l2 < 0) = false := decide_eq_false (by have := HL2.out; omega)
  clear hl z1
  have hc2 : Below w1.heap.size w1 w2 := (by first | exact hb2 | exact cr_d hb2 | exact cr_1 hb2 | exact cr_2 hb2 | exact cr_1d hb2 | exact cr_2d hb2 | exact cr_d1 hb2)
  have s2 := Lib.hid (show w1.heap.size + 0 ≤ w2.heap.size from by exact hc2.size)
  clear c_a0_0 c_a0_1 c_a0_2 l_a0
  clear c_a1_0 c_a1_1 l_a1
  replace B_a0 := Lib.hid (blk_in B_a0.out hc2)
  replace B_a1 := Lib.hid (blk_in B_a1.out hc2)
  replace HB := Lib.hid (HB.out.trans (hc2.mono HB.out.size))
  clear hc2 hb2
  obtain ⟨c_a0_0, c_a0_1, c_a0_2⟩ := cells3 B_a0.out
  have l_a0 := lt_of B_a0.out
  obtain ⟨c_a1_0, c_a1_1⟩ := cells2 B_a1.out
  have l_a1 := lt_of B_a1.out
  go_upto_region 8 with fail
  go_cut [6] from 10 (fun s6 wr => s6 = .bool (isActorR0 x0 x1) ∧ Hid (Below w2.heap.size w2 wr))
  case first =>
    have HX := Lib.hid (Below.refl w2.heap.size w2)
    go_region_with (first | (go_at_call 32; refine (toPrg_any _ x0 _ ⟨_, rfl, HA0.out.below (bl2 HB.out (by first | exact Below.refl _ _ | exact (Below.refl _ _).drew | exact (Below.refl _ _).al _ | exact ((Below.refl _ _).al _).al _ | exact ((Below.refl _ _).al _).drew | exact ((Below.refl _ _).drew).al _ | exact (((Below.refl _ _).al _).al _).drew))⟩ HS0.out).mono ?_; rintro e w3 ⟨v_t0, rfl, ⟨c_t0, rfl, o_t0⟩, hb3⟩; have hc3 : Below w2.heap.size w2 w3 := (by first | exact hb3 | exact cr_d hb3 | exact cr_1 hb3 | exact cr_2 hb3 | exact cr_1d hb3 | exact cr_2d hb3 | exact cr_d1 hb3); have s3 := Lib.hid (show w2.heap.size + 0 ≤ w3.heap.size from by exact hc3.size); clear c_a0_0 c_a0_1 c_a0_2 l_a0; clear c_a1_0 c_a1_1 l_a1; replace B_a0 := Lib.hid (blk_in B_a0.out hc3); replace B_a1 := Lib.hid (blk_in B_a1.out hc3); obtain ⟨a_t0, k_t0, rfl⟩ := o_t0.shape; have u_t0 := Lib.hid (show ∀ k, (Value.slice a_t0 (x0).code.length k_t0).ownBlock = some k → k < w3.heap.size from fun k e => (o_t0.lt k e).2); replace o_t0 := Lib.hid (OwnI.mono (lo' := w2.heap.size + 0) o_t0 (by first | exact Nat.le_refl _ | simp)); replace HB := Lib.hid (HB.out.trans (hc3.mono HB.out.size)); replace HX := Lib.hid (HX.out.trans (hc3.mono HX.out.size)); clear hc3 hb3; obtain ⟨c_a0_0, c_a0_1, c_a0_2⟩ := cells3 B_a0.out; have l_a0 := lt_of B_a0.out; obtain ⟨c_a1_0, c_a1_1⟩ := cells2 B_a1.out; have l_a1 := lt_of B_a1.out) | (go_at_call 41; refine (toAct_any _ x1 _ ⟨_, rfl, HA1.out.below (bl2 HB.out (by first | exact Below.refl _ _ | exact (Below.refl _ _).drew | exact (Below.refl _ _).al _ | exact ((Below.refl _ _).al _).al _ | exact ((Below.refl _ _).al _).drew | exact ((Below.refl _ _).drew).al _ | exact (((Below.refl _ _).al _).al _).drew))⟩ HS1.out).mono ?_; rintro e w4 ⟨v_t1, rfl, ⟨c_t1, rfl, o_t1⟩, hb4⟩; have hc4 : Below w3.heap.size w3 w4 := (by first | exact hb4 | exact cr_d hb4 | exact cr_1 hb4 | exact cr_2 hb4 | exact cr_1d hb4 | exact cr_2d hb4 | exact cr_d1 hb4); have s4 := Lib.hid (show w3.heap.size + 0 ≤ w4.heap.size from by exact hc4.size); clear c_a0_0 c_a0_1 c_a0_2 l_a0; clear c_a1_0 c_a1_1 l_a1; replace B_a0 := Lib.hid (blk_in B_a0.out hc4); replace B_a1 := Lib.hid (blk_in B_a1.out hc4); replace o_t0 := Lib.hid (o_t0.out.below hc4); obtain ⟨a_t1, k_t1, rfl⟩ := o_t1.shape; have u_t1 := Lib.hid (show ∀ k, (Value.slice a_t1 (x1).regs.length k_t1).ownBlock = some k → k < w4.heap.size from fun k e => (o_t1.lt k e).2); replace o_t1 := Lib.hid (Own.mono (lo' := w3.heap.size + 0) o_t1 (by first | exact Nat.le_refl _ | simp)); replace HB := Lib.hid (HB.out.trans (hc4.mono HB.out.size)); replace HX := Lib.hid (HX.out.trans (hc4.mono HX.out.size)); clear hc4 hb4; obtain ⟨c_a0_0, c_a0_1, c_a0_2⟩ := cells3 B_a0.out; have l_a0 := lt_of B_a0.out; obtain ⟨c_a1_0, c_a1_1⟩ := cells2 B_a1.out; have l_a1 := lt_of B_a1.out) | (go_at_call 29; refine (sisactR_any _ _ x0 x1 _ ⟨_, rfl, (o_t0.out.below (by first | exact Below.refl _ _ | exact (Below.refl _ _).drew | exact (Below.refl _ _).al _ | exact ((Below.refl _ _).al _).al _ | exact ((Below.refl _ _).al _).drew | exact ((Below.refl _ _).drew).al _ | exact (((Below.refl _ _).al _).al _).drew)).sl⟩ ⟨_, rfl, (o_t1.out.below (by first | exact Below.refl _ _ | exact (Below.refl _ _).drew | exact (Below.refl _ _).al _ | exact ((Below.refl _ _).al _).al _ | exact ((Below.refl _ _).al _).drew | exact ((Below.refl _ _).drew).al _ | exact (((Below.refl _ _).al _).al _).drew)).sl⟩).mono ?_; rintro e w5 ⟨rfl, hb5⟩; have hc5 : Below w4.heap.size w4 w5 := (by first | exact hb5 | exact cr_d hb5 | exact cr_1 hb5 | exact cr_2 hb5 | exact cr_1d hb5 | exact cr_2d hb5 | exact cr_d1 hb5); have s5 := Lib.hid (show w4.heap.size + 0 ≤ w5.heap.size from by exact hc5.size); clear c_a0_0 c_a0_1 c_a0_2 l_a0; clear c_a1_0 c_a1_1 l_a1; replace B_a0 := Lib.hid (blk_in B_a0.out hc5); replace B_a1 := Lib.hid (blk_in B_a1.out hc5); replace o_t0 := Lib.hid (o_t0.out.below hc5); replace o_t1 := Lib.hid (o_t1.out.below hc5); replace HB := Lib.hid (HB.out.trans (hc5.mono HB.out.size)); replace HX := Lib.hid (HX.out.trans (hc5.mono HX.out.size)); clear hc5 hb5; obtain ⟨c_a0_0, c_a0_1, c_a0_2⟩ := cells3 B_a0.out; have l_a0 := lt_of B_a0.out; obtain ⟨c_a1_0, c_a1_1⟩ := cells2 B_a1.out; have l_a1 := lt_of B_a1.out))
    all_goals
      go_wp2_with fail
      go_meet
      case rel => exact ⟨rfl, Lib.hid HX.out⟩
  rename World => w3
  obtain ⟨rfl, hb3⟩ := hcut
  replace hb3 := hb3.out
  have hc3 : Below w2.heap.size w2 w3 := (by first | exact hb3 | exact cr_d hb3 | exact cr_1 hb3 | exact cr_2 hb3 | exact cr_1d hb3 | exact cr_2d hb3 | exact cr_d1 hb3)
  have s3 := Lib.hid (show w2.heap.size + 0 ≤ w3.heap.size from by exact hc3.size)
  clear c_a0_0 c_a0_1 c_a0_2 l_a0
  clear c_a1_0 c_a1_1 l_a1
  replace B_a0 := Lib.hid (blk_in B_a0.out hc3)
  replace B_a1 := Lib.hid (blk_in B_a1.out hc3)
  replace HB := Lib.hid (HB.out.trans (hc3.mono HB.out.size))
  clear hc3 hb3
  obtain ⟨c_a0_0, c_a0_1, c_a0_2⟩ := cells3 B_a0.out
  have l_a0 := lt_of B_a0.out
  obtain ⟨c_a1_0, c_a1_1⟩ := cells2 B_a1.out
  have l_a1 := lt_of B_a1.out
  go_wp2_with fail
  refine (toPrg_any _ x0 _ ⟨_, rfl, HA0.out.below (bl2 HB.out (by first | exact Below.refl _ _ | exact (Below.refl _ _).drew | exact (Below.refl _ _).al _ | exact ((Below.refl _ _).al _).al _ | exact ((Below.refl _ _).al _).drew | exact ((Below.refl _ _).drew).al _ | exact (((Below.refl _ _).al _).al _).drew))⟩ HS0.out).mono ?_
  rintro e w4 ⟨v_y0, rfl, ⟨c_y0, rfl, o_y0⟩, hb4⟩
  have hc4 : Below w3.heap.size w3 w4 := (by first | exact hb4 | exact cr_d hb4 | exact cr_1 hb4 | exact cr_2 hb4 | exact cr_1d hb4 | exact cr_2d hb4 | exact cr_d1 hb4)
  have s4 := Lib.hid (show w3.heap.size + 0 ≤ w4.heap.size from by exact hc4.size)
  clear c_a0_0 c_a0_1 c_a0_2 l_a0
  clear c_a1_0 c_a1_1 l_a1
  replace B_a0 := Lib.hid (blk_in B_a0.out hc4)
  replace B_a1 := Lib.hid (blk_in B_a1.out hc4)
  obtain ⟨a_y0, k_y0, rfl⟩ := o_y0.shape
  have u_y0 := Lib.hid (show ∀ k, (Value.slice a_y0 (x0).code.length k_y0).ownBlock = some k → k < w4.heap.size from fun k e => (o_y0.lt k e).2)
  replace o_y0 := Lib.hid (OwnI.mono (lo' := w3.heap.size + 0) o_y0 (by first | exact Nat.le_refl _ | simp))
  replace HB := Lib.hid (HB.out.trans (hc4.mono HB.out.size))
  clear hc4 hb4
  obtain ⟨c_a0_0, c_a0_1, c_a0_2⟩ := cells3 B_a0.out
  have l_a0 := lt_of B_a0.out
  obtain ⟨c_a1_0, c_a1_1⟩ := cells2 B_a1.out
  have l_a1 := lt_of B_a1.out
  go_wp2_with fail
  refine (toAct_any _ x1 _ ⟨_, rfl, HA1.out.below (bl2 HB.out (by first | exact Below.refl _ _ | exact (Below.refl _ _).drew | exact (Below.refl _ _).al _ | exact ((Below.refl _ _).al _).al _ | exact ((Below.refl _ _).al _).drew | exact ((Below.refl _ _).drew).al _ | exact (((Below.refl _ _).al _).al _).drew))⟩ HS1.out).mono ?_
  rintro e w5 ⟨v_y1, rfl, ⟨c_y1, rfl, o_y1⟩, hb5⟩
  have hc5 : Below w4.heap.size w4 w5 := (by first | exact hb5 | exact cr_d hb5 | exact cr_1 hb5 | exact cr_2 hb5 | exact cr_1d hb5 | exact cr_2d hb5 | exact cr_d1 hb5)
  have s5 := Lib.hid (show w4.heap.size + 1 ≤ w5.heap.size from by have := hb5.size; simp at this; omega)
  clear c_a0_0 c_a0_1 c_a0_2 l_a0
  clear c_a1_0 c_a1_1 l_a1
  replace B_a0 := Lib.hid (blk_in B_a0.out hc5)
  replace B_a1 := Lib.hid (blk_in B_a1.out hc5)
  have B_y0 := Lib.hid (show w5.heap[w4.heap.size]? = some (.cells #[.int .i64 (x0).ins, .int .i64 (x0).outs, (Value.slice a_y0 (x0).code.length k_y0)] 31) from blk_in (hp1 _ _) hb5)
  replace o_y0 := Lib.hid (o_y0.out.below hc5)
  obtain ⟨a_y1, k_y1, rfl⟩ := o_y1.shape
  have u_y1 := Lib.hid (show ∀ k, (Value.slice a_y1 (x1).regs.length k_y1).ownBlock = some k → k < w5.heap.size from fun k e => (o_y1.lt k e).2)
  replace o_y1 := Lib.hid (Own.mono (lo' := w4.heap.size + 1) o_y1 (by first | exact Nat.le_refl _ | simp))
  replace HB := Lib.hid (HB.out.trans (hc5.mono HB.out.size))
  clear hc5 hb5
  obtain ⟨c_a0_0, c_a0_1, c_a0_2⟩ := cells3 B_a0.out
  have l_a0 := lt_of B_a0.out
  obtain ⟨c_a1_0, c_a1_1⟩ := cells2 B_a1.out
  have l_a1 := lt_of B_a1.out
  obtain ⟨c_y0_0, c_y0_1, c_y0_2⟩ := cells3 B_y0.out
  have l_y0 := lt_of B_y0.out
  go_wp2_with fail
  refine (iisactR_any _ _ x0 x1 _ ⟨_, rfl, (o_y0.out.below (by first | exact Below.refl _ _ | exact (Below.refl _ _).drew | exact (Below.refl _ _).al _ | exact ((Below.refl _ _).al _).al _ | exact ((Below.refl _ _).al _).drew | exact ((Below.refl _ _).drew).al _ | exact (((Below.refl _ _).al _).al _).drew)).sl⟩ ⟨_, rfl, (o_y1.out.below (by first | exact Below.refl _ _ | exact (Below.refl _ _).drew | exact (Below.refl _ _).al _ | exact ((Below.refl _ _).al _).al _ | exact ((Below.refl _ _).al _).drew | exact ((Below.refl _ _).drew).al _ | exact (((Below.refl _ _).al _).al _).drew)).sl⟩).mono ?_
  rintro e w6 ⟨rfl, hb6⟩
  have hc6 : Below w5.heap.size w5 w6 := (by first | exact hb6 | exact cr_d hb6 | exact cr_1 hb6 | exact cr_2 hb6 | exact cr_1d hb6 | exact cr_2d hb6 | exact cr_d1 hb6)
  have s6 := Lib.hid (show w5.heap.size + 1 ≤ w6.heap.size from by have := hb6.size; simp at this; omega)
  clear c_a0_0 c_a0_1 c_a0_2 l_a0
  clear c_a1_0 c_a1_1 l_a1
  clear c_y0_0 c_y0_1 c_y0_2 l_y0
  replace B_a0 := Lib.hid (blk_in B_a0.out hc6)
  replace B_a1 := Lib.hid (blk_in B_a1.out hc6)
  replace B_y0 := Lib.hid (blk_in B_y0.out hc6)
  have B_y1 := Lib.hid (show w6.heap[w5.heap.size]? = some (.cells #[.int .i64 (x1).pc, (Value.slice a_y1 (x1).regs.length k_y1)] 43) from blk_in (hp1 _ _) hb6)
  replace o_y0 := Lib.hid (o_y0.out.below hc6)
  replace o_y1 := Lib.hid (o_y1.out.below hc6)
  replace HB := Lib.hid (HB.out.trans (hc6.mono HB.out.size))
  clear hc6 hb6
  obtain ⟨c_a0_0, c_a0_1, c_a0_2⟩ := cells3 B_a0.out
  have l_a0 := lt_of B_a0.out
  obtain ⟨c_a1_0, c_a1_1⟩ := cells2 B_a1.out
  have l_a1 := lt_of B_a1.out
  obtain ⟨c_y0_0, c_y0_1, c_y0_2⟩ := cells3 B_y0.out
  have l_y0 := lt_of B_y0.out
  obtain ⟨c_y1_0, c_y1_1⟩ := cells2 B_y1.out
  have l_y1 := lt_of B_y1.out
  go_upto_region 14 with fail
  go_cut [39] from 10 (fun s39 wr => s39 = .bool false ∧ Hid (Below w6.heap.size w6 wr))
  case first =>
    have HX := Lib.hid (Below.refl w6.heap.size w6)
    go_region_with (first | (go_at_call 32; refine (toPrg_any _ x0 _ ⟨_, rfl, HA0.out.below (bl2 HB.out (by first | exact Below.refl _ _ | exact (Below.refl _ _).drew | exact (Below.refl _ _).al _ | exact ((Below.refl _ _).al _).al _ | exact ((Below.refl _ _).al _).drew | exact ((Below.refl _ _).drew).al _ | exact (((Below.refl _ _).al _).al _).drew))⟩ HS0.out).mono ?_; rintro e w7 ⟨v_z0, rfl, ⟨c_z0, rfl, o_z0⟩, hb7⟩; have hc7 : Below w6.heap.size w6 w7 := (by first | exact hb7 | exact cr_d hb7 | exact cr_1 hb7 | exact cr_2 hb7 | exact cr_1d hb7 | exact cr_2d hb7 | exact cr_d1 hb7); have s7 := Lib.hid (show w6.heap.size + 0 ≤ w7.heap.size from by exact hc7.size); clear c_a0_0 c_a0_1 c_a0_2 l_a0; clear c_a1_0 c_a1_1 l_a1; clear c_y0_0 c_y0_1 c_y0_2 l_y0; clear c_y1_0 c_y1_1 l_y1; replace B_a0 := Lib.hid (blk_in B_a0.out hc7); replace B_a1 := Lib.hid (blk_in B_a1.out hc7); replace B_y0 := Lib.hid (blk_in B_y0.out hc7); replace B_y1 := Lib.hid (blk_in B_y1.out hc7); replace o_y0 := Lib.hid (o_y0.out.below hc7); replace o_y1 := Lib.hid (o_y1.out.below hc7); obtain ⟨a_z0, k_z0, rfl⟩ := o_z0.shape; have u_z0 := Lib.hid (show ∀ k, (Value.slice a_z0 (x0).code.length k_z0).ownBlock = some k → k < w7.heap.size from fun k e => (o_z0.lt k e).2); replace o_z0 := Lib.hid (OwnI.mono (lo' := w6.heap.size + 0) o_z0 (by first | exact Nat.le_refl _ | simp)); replace HB := Lib.hid (HB.out.trans (hc7.mono HB.out.size)); replace HX := Lib.hid (HX.out.trans (hc7.mono HX.out.size)); clear hc7 hb7; obtain ⟨c_a0_0, c_a0_1, c_a0_2⟩ := cells3 B_a0.out; have l_a0 := lt_of B_a0.out; obtain ⟨c_a1_0, c_a1_1⟩ := cells2 B_a1.out; have l_a1 := lt_of B_a1.out; obtain ⟨c_y0_0, c_y0_1, c_y0_2⟩ := cells3 B_y0.out; have l_y0 := lt_of B_y0.out; obtain ⟨c_y1_0, c_y1_1⟩ := cells2 B_y1.out; have l_y1 := lt_of B_y1.out) | (go_at_call 34; refine (eqPrg_ok _ _ x0 _ ⟨_, rfl, (o_y0.out.below (by first | exact Below.refl _ _ | exact (Below.refl _ _).drew | exact (Below.refl _ _).al _ | exact ((Below.refl _ _).al _).al _ | exact ((Below.refl _ _).al _).drew | exact ((Below.refl _ _).drew).al _ | exact (((Below.refl _ _).al _).al _).drew)).sl⟩ ⟨_, rfl, (o_z0.out.below (by first | exact Below.refl _ _ | exact (Below.refl _ _).drew | exact (Below.refl _ _).al _ | exact ((Below.refl _ _).al _).al _ | exact ((Below.refl _ _).al _).drew | exact ((Below.refl _ _).drew).al _ | exact (((Below.refl _ _).al _).al _).drew)).sl⟩).mono ?_; rintro e w8 ⟨rfl, hb8⟩; have hc8 : Below w7.heap.size w7 w8 := (by first | exact hb8 | exact cr_d hb8 | exact cr_1 hb8 | exact cr_2 hb8 | exact cr_1d hb8 | exact cr_2d hb8 | exact cr_d1 hb8); have s8 := Lib.hid (show w7.heap.size + 0 ≤ w8.heap.size from by exact hc8.size); clear c_a0_0 c_a0_1 c_a0_2 l_a0; clear c_a1_0 c_a1_1 l_a1; clear c_y0_0 c_y0_1 c_y0_2 l_y0; clear c_y1_0 c_y1_1 l_y1; replace B_a0 := Lib.hid (blk_in B_a0.out hc8); replace B_a1 := Lib.hid (blk_in B_a1.out hc8); replace B_y0 := Lib.hid (blk_in B_y0.out hc8); replace B_y1 := Lib.hid (blk_in B_y1.out hc8); replace o_y0 := Lib.hid (o_y0.out.below hc8); replace o_y1 := Lib.hid (o_y1.out.below hc8); replace o_z0 := Lib.hid (o_z0.out.below hc8); replace HB := Lib.hid (HB.out.trans (hc8.mono HB.out.size)); replace HX := Lib.hid (HX.out.trans (hc8.mono HX.out.size)); clear hc8 hb8; obtain ⟨c_a0_0, c_a0_1, c_a0_2⟩ := cells3 B_a0.out; have l_a0 := lt_of B_a0.out; obtain ⟨c_a1_0, c_a1_1⟩ := cells2 B_a1.out; have l_a1 := lt_of B_a1.out; obtain ⟨c_y0_0, c_y0_1, c_y0_2⟩ := cells3 B_y0.out; have l_y0 := lt_of B_y0.out; obtain ⟨c_y1_0, c_y1_1⟩ := cells2 B_y1.out; have l_y1 := lt_of B_y1.out))
    all_goals
      go_wp2_with fail
      go_meet
      case rel => exact ⟨rfl, Lib.hid HX.out⟩
  rename World => w7
  obtain ⟨rfl, hb7⟩ := hcut
  replace hb7 := hb7.out
  have hc7 : Below w6.heap.size w6 w7 := (by first | exact hb7 | exact cr_d hb7 | exact cr_1 hb7 | exact cr_2 hb7 | exact cr_1d hb7 | exact cr_2d hb7 | exact cr_d1 hb7)
  have s7 := Lib.hid (show w6.heap.size + 0 ≤ w7.heap.size from by exact hc7.size)
  clear c_a0_0 c_a0_1 c_a0_2 l_a0
  clear c_a1_0 c_a1_1 l_a1
  clear c_y0_0 c_y0_1 c_y0_2 l_y0
  clear c_y1_0 c_y1_1 l_y1
  replace B_a0 := Lib.hid (blk_in B_a0.out hc7)
  replace B_a1 := Lib.hid (blk_in B_a1.out hc7)
  replace B_y0 := Lib.hid (blk_in B_y0.out hc7)
  replace B_y1 := Lib.hid (blk_in B_y1.out hc7)
  replace o_y0 := Lib.hid (o_y0.out.below hc7)
  replace o_y1 := Lib.hid (o_y1.out.below hc7)
  replace HB := Lib.hid (HB.out.trans (hc7.mono HB.out.size))
  clear hc7 hb7
  obtain ⟨c_a0_0, c_a0_1, c_a0_2⟩ := cells3 B_a0.out
  have l_a0 := lt_of B_a0.out
  obtain ⟨c_a1_0, c_a1_1⟩ := cells2 B_a1.out
  have l_a1 := lt_of B_a1.out
  obtain ⟨c_y0_0, c_y0_1, c_y0_2⟩ := cells3 B_y0.out
  have l_y0 := lt_of B_y0.out
  obtain ⟨c_y1_0, c_y1_1⟩ := cells2 B_y1.out
  have l_y1 := lt_of B_y1.out
  go_upto_region 16 with fail
  go_cut [44] from 10 (fun s44 wr => s44 = .bool false ∧ Hid (Below w7.heap.size w7 wr))
  case first =>
    have HX := Lib.hid (Below.refl w7.heap.size w7)
    go_region_with (first | (go_at_call 41; refine (toAct_any _ x1 _ ⟨_, rfl, HA1.out.below (bl2 HB.out (by first | exact Below.refl _ _ | exact (Below.refl _ _).drew | exact (Below.refl _ _).al _ | exact ((Below.refl _ _).al _).al _ | exact ((Below.refl _ _).al _).drew | exact ((Below.refl _ _).drew).al _ | exact (((Below.refl _ _).al _).al _).drew))⟩ HS1.out).mono ?_; rintro e w8 ⟨v_z1, rfl, ⟨c_z1, rfl, o_z1⟩, hb8⟩; have hc8 : Below w7.heap.size w7 w8 := (by first | exact hb8 | exact cr_d hb8 | exact cr_1 hb8 | exact cr_2 hb8 | exact cr_1d hb8 | exact cr_2d hb8 | exact cr_d1 hb8); have s8 := Lib.hid (show w7.heap.size + 0 ≤ w8.heap.size from by exact hc8.size); clear c_a0_0 c_a0_1 c_a0_2 l_a0; clear c_a1_0 c_a1_1 l_a1; clear c_y0_0 c_y0_1 c_y0_2 l_y0; clear c_y1_0 c_y1_1 l_y1; replace B_a0 := Lib.hid (blk_in B_a0.out hc8); replace B_a1 := Lib.hid (blk_in B_a1.out hc8); replace B_y0 := Lib.hid (blk_in B_y0.out hc8); replace B_y1 := Lib.hid (blk_in B_y1.out hc8); replace o_y0 := Lib.hid (o_y0.out.below hc8); replace o_y1 := Lib.hid (o_y1.out.below hc8); obtain ⟨a_z1, k_z1, rfl⟩ := o_z1.shape; have u_z1 := Lib.hid (show ∀ k, (Value.slice a_z1 (x1).regs.length k_z1).ownBlock = some k → k < w8.heap.size from fun k e => (o_z1.lt k e).2); replace o_z1 := Lib.hid (Own.mono (lo' := w7.heap.size + 0) o_z1 (by first | exact Nat.le_refl _ | simp)); replace HB := Lib.hid (HB.out.trans (hc8.mono HB.out.size)); replace HX := Lib.hid (HX.out.trans (hc8.mono HX.out.size)); clear hc8 hb8; obtain ⟨c_a0_0, c_a0_1, c_a0_2⟩ := cells3 B_a0.out; have l_a0 := lt_of B_a0.out; obtain ⟨c_a1_0, c_a1_1⟩ := cells2 B_a1.out; have l_a1 := lt_of B_a1.out; obtain ⟨c_y0_0, c_y0_1, c_y0_2⟩ := cells3 B_y0.out; have l_y0 := lt_of B_y0.out; obtain ⟨c_y1_0, c_y1_1⟩ := cells2 B_y1.out; have l_y1 := lt_of B_y1.out) | (go_at_call 36; refine (eqAct_ok _ _ x1 _ ⟨_, rfl, (o_y1.out.below (by first | exact Below.refl _ _ | exact (Below.refl _ _).drew | exact (Below.refl _ _).al _ | exact ((Below.refl _ _).al _).al _ | exact ((Below.refl _ _).al _).drew | exact ((Below.refl _ _).drew).al _ | exact (((Below.refl _ _).al _).al _).drew)).sl⟩ ⟨_, rfl, (o_z1.out.below (by first | exact Below.refl _ _ | exact (Below.refl _ _).drew | exact (Below.refl _ _).al _ | exact ((Below.refl _ _).al _).al _ | exact ((Below.refl _ _).al _).drew | exact ((Below.refl _ _).drew).al _ | exact (((Below.refl _ _).al _).al _).drew)).sl⟩).mono ?_; rintro e w9 ⟨rfl, hb9⟩; have hc9 : Below w8.heap.size w8 w9 := (by first | exact hb9 | exact cr_d hb9 | exact cr_1 hb9 | exact cr_2 hb9 | exact cr_1d hb9 | exact cr_2d hb9 | exact cr_d1 hb9); have s9 := Lib.hid (show w8.heap.size + 0 ≤ w9.heap.size from by exact hc9.size); clear c_a0_0 c_a0_1 c_a0_2 l_a0; clear c_a1_0 c_a1_1 l_a1; clear c_y0_0 c_y0_1 c_y0_2 l_y0; clear c_y1_0 c_y1_1 l_y1; replace B_a0 := Lib.hid (blk_in B_a0.out hc9); replace B_a1 := Lib.hid (blk_in B_a1.out hc9); replace B_y0 := Lib.hid (blk_in B_y0.out hc9); replace B_y1 := Lib.hid (blk_in B_y1.out hc9); replace o_y0 := Lib.hid (o_y0.out.below hc9); replace o_y1 := Lib.hid (o_y1.out.below hc9); replace o_z1 := Lib.hid (o_z1.out.below hc9); replace HB := Lib.hid (HB.out.trans (hc9.mono HB.out.size)); replace HX := Lib.hid (HX.out.trans (hc9.mono HX.out.size)); clear hc9 hb9; obtain ⟨c_a0_0, c_a0_1, c_a0_2⟩ := cells3 B_a0.out; have l_a0 := lt_of B_a0.out; obtain ⟨c_a1_0, c_a1_1⟩ := cells2 B_a1.out; have l_a1 := lt_of B_a1.out; obtain ⟨c_y0_0, c_y0_1, c_y0_2⟩ := cells3 B_y0.out; have l_y0 := lt_of B_y0.out; obtain ⟨c_y1_0, c_y1_1⟩ := cells2 B_y1.out; have l_y1 := lt_of B_y1.out))
    all_goals
      go_wp2_with fail
      go_meet
      case rel => exact ⟨rfl, Lib.hid HX.out⟩
  rename World => w8
  obtain ⟨rfl, hb8⟩ := hcut
  replace hb8 := hb8.out
  have hc8 : Below w7.heap.size w7 w8 := (by first | exact hb8 | exact cr_d hb8 | exact cr_1 hb8 | exact cr_2 hb8 | exact cr_1d hb8 | exact cr_2d hb8 | exact cr_d1 hb8)
  have s8 := Lib.hid (show w7.heap.size + 0 ≤ w8.heap.size from by exact hc8.size)
  clear c_a0_0 c_a0_1 c_a0_2 l_a0
  clear c_a1_0 c_a1_1 l_a1
  clear c_y0_0 c_y0_1 c_y0_2 l_y0
  clear c_y1_0 c_y1_1 l_y1
  replace B_a0 := Lib.hid (blk_in B_a0.out hc8)
  replace B_a1 := Lib.hid (blk_in B_a1.out hc8)
  replace B_y0 := Lib.hid (blk_in B_y0.out hc8)
  replace B_y1 := Lib.hid (blk_in B_y1.out hc8)
  replace o_y0 := Lib.hid (o_y0.out.below hc8)
  replace o_y1 := Lib.hid (o_y1.out.below hc8)
  replace HB := Lib.hid (HB.out.trans (hc8.mono HB.out.size))
  clear hc8 hb8
  obtain ⟨c_a0_0, c_a0_1, c_a0_2⟩ := cells3 B_a0.out
  have l_a0 := lt_of B_a0.out
  obtain ⟨c_a1_0, c_a1_1⟩ := cells2 B_a1.out
  have l_a1 := lt_of B_a1.out
  obtain ⟨c_y0_0, c_y0_1, c_y0_2⟩ := cells3 B_y0.out
  have l_y0 := lt_of B_y0.out
  obtain ⟨c_y1_0, c_y1_1⟩ := cells2 B_y1.out
  have l_y1 := lt_of B_y1.out
  go_wp2_with fail
  go_ret
  exact ⟨rfl, HB.out⟩

end Go.Proofs.Ytamhbjmljgkfpaa
