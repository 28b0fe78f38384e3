/-
  The walk of the law FnExactStepActor: it answers true and changes nothing that was there.
-/
import Derived.Test.YthniafpkkgcjnaaStepL
import Derived.Deep.Cut
import Derived.Deep.RegionHeld3
namespace Go.Proofs.Ythniafpkkgcjnaa
open Go.RowKit

set_option maxRecDepth 100000 in
set_option maxHeartbeats 40000000 in
theorem fnExactStepActor_walk (v0 : Value) (x0 : Prg) (v1 : Value) (x1 : Act) (x2 : Int) (w : World) (h0 : PrgV w v0 x0) (h1 : ActV w v1 x1) (h2 : (Lit.int .i64 x2).wf = true) :
    Calls Try.prog 8 #[v0, v1, .int .i64 x2] w fun e w' => e = .returned (.bool true) ∧ Below w.heap.size w w' := by
  obtain ⟨c0, rfl, H0⟩ := h0
  have HA0 := Lib.hid H0
  clear H0
  obtain ⟨c1, rfl, H1⟩ := h1
  have HA1 := Lib.hid H1
  clear H1
  have HB := Lib.hid (Below.refl w.heap.size w)
  go_enter Try.func8, Try.ntmps8
  have HL0 := Lib.hid (show (0 : Int) ≤ 1048576 ∧ (1048576 : Int) ≤ 1048576 by omega)
  go_wp2_with fail
  by_cases z0 : (((x0).code.length : Nat) : Int) ≤ 1048576
  case neg =>
    refine (szPrg_any _ x0 (1048576) _ ⟨_, rfl, HA0.out.below (bl2 HB.out (by first | exact Below.refl _ _ | exact (Below.refl _ _).drew | exact (Below.refl _ _).al _ | exact ((Below.refl _ _).al _).al _ | exact ((Below.refl _ _).al _).drew | exact ((Below.refl _ _).drew).al _ | exact (((Below.refl _ _).al _).al _).drew))⟩ HL0.out).mono ?_
    rintro e w1 ⟨rfl, hb⟩
    rw [if_neg z0]
    have hc : Below w.heap.size w w1 := by first | exact hb | exact cr_1 hb | exact cr_2 hb
    go_wp2_with fail
    go_ret
    exact ⟨rfl, HB.out.trans (hc.mono HB.out.size)⟩
  refine (szPrg_any _ x0 (1048576) _ ⟨_, rfl, HA0.out.below (bl2 HB.out (by first | exact Below.refl _ _ | exact (Below.refl _ _).drew | exact (Below.refl _ _).al _ | exact ((Below.refl _ _).al _).al _ | exact ((Below.refl _ _).al _).drew | exact ((Below.refl _ _).drew).al _ | exact (((Below.refl _ _).al _).al _).drew))⟩ HL0.out).mono ?_
  rintro e w1 ⟨rfl, hb1⟩
  rw [if_pos z0]
  obtain ⟨l1, hl⟩ : ∃ l : Int, l = 1048576 - (((x0).code.length : Nat) : Int) := ⟨_, rfl⟩
  rw [← hl]
  have HL1 := Lib.hid (show 0 ≤ l1 ∧ l1 ≤ 1048576 by have := HL0.out; omega)
  have HS0 := Lib.hid (show (x0).code.length ≤ 1048576 by have := HL0.out; omega)
  have d1 : decide (l1 < 0) = false := decide_eq_false (by have := HL1.out; omega)
  clear hl z0
  have hc1 : Below w.heap.size w w1 := (by first | exact hb1 | exact cr_d hb1 | exact cr_1 hb1 | exact cr_2 hb1 | exact cr_1d hb1 | exact cr_2d hb1 | exact cr_d1 hb1)
  have s1 := Lib.hid (show w.heap.size + 2 ≤ w1.heap.size from by have := hb1.size; simp at this; omega)
  have B_a0 := Lib.hid (show w1.heap[w.heap.size]? = some (.cells #[.int .i64 (x0).ins, .int .i64 (x0).outs, c0] 65) from blk_in (hp21 _ _ _) hb1)
  have B_a1 := Lib.hid (show w1.heap[w.heap.size + 1]? = some (.cells #[.int .i64 (x1).pc, c1] 66) from blk_in (hp2 _ _ _) hb1)
  replace HB := Lib.hid (HB.out.trans (hc1.mono HB.out.size))
  clear hc1 hb1
  obtain ⟨c_a0_0, c_a0_1, c_a0_2⟩ := cells3 B_a0.out
  have l_a0 := lt_of B_a0.out
  obtain ⟨c_a1_0, c_a1_1⟩ := cells2 B_a1.out
  have l_a1 := lt_of B_a1.out
  go_wp2_with fail
  by_cases z1 : (((x1).regs.length : Nat) : Int) ≤ l1
  case neg =>
    refine (szAct_any _ x1 (l1) _ ⟨_, rfl, HA1.out.below (bl2 HB.out (by first | exact Below.refl _ _ | exact (Below.refl _ _).drew | exact (Below.refl _ _).al _ | exact ((Below.refl _ _).al _).al _ | exact ((Below.refl _ _).al _).drew | exact ((Below.refl _ _).drew).al _ | exact (((Below.refl _ _).al _).al _).drew))⟩ HL1.out).mono ?_
    rintro e w2 ⟨rfl, hb⟩
    rw [if_neg z1]
    have hc : Below w1.heap.size w1 w2 := by first | exact hb | exact cr_1 hb | exact cr_2 hb
    go_wp2_with fail
    go_ret
    exact ⟨rfl, HB.out.trans (hc.mono HB.out.size)⟩
  refine (szAct_any _ x1 (l1) _ ⟨_, rfl, HA1.out.below (bl2 HB.out (by first | exact Below.refl _ _ | exact (Below.refl _ _).drew | exact (Below.refl _ _).al _ | exact ((Below.refl _ _).al _).al _ | exact ((Below.refl _ _).al _).drew | exact ((Below.refl _ _).drew).al _ | exact (((Below.refl _ _).al _).al _).drew))⟩ HL1.out).mono ?_
  rintro e w2 ⟨rfl, hb2⟩
  rw [if_pos z1]
  obtain ⟨l2, hl⟩ : ∃ l : Int, l = l1 - (((x1).regs.length : Nat) : Int) := ⟨_, rfl⟩
  rw [← hl]
  have HL2 := Lib.hid (show 0 ≤ l2 ∧ l2 ≤ 1048576 by have := HL1.out; omega)
  have HS1 := Lib.hid (show (x1).regs.length ≤ 1048576 by have := HL1.out; omega)
  have d2 : decide (l2 < 0) = false := decide_eq_false (by have := HL2.out; omega)
  clear hl z1
  have hc2 : Below w1.heap.size w1 w2 := (by first | exact hb2 | exact cr_d hb2 | exact cr_1 hb2 | exact cr_2 hb2 | exact cr_1d hb2 | exact cr_2d hb2 | exact cr_d1 hb2)
  have s2 := Lib.hid (show w1.heap.size + 0 ≤ w2.heap.size from by exact hc2.size)
  clear c_a0_0 c_a0_1 c_a0_2 l_a0
  clear c_a1_0 c_a1_1 l_a1
  replace B_a0 := Lib.hid (blk_in B_a0.out hc2)
  replace B_a1 := Lib.hid (blk_in B_a1.out hc2)
  replace HB := Lib.hid (HB.out.trans (hc2.mono HB.out.size))
  clear hc2 hb2
  obtain ⟨c_a0_0, c_a0_1, c_a0_2⟩ := cells3 B_a0.out
  have l_a0 := lt_of B_a0.out
  obtain ⟨c_a1_0, c_a1_1⟩ := cells2 B_a1.out
  have l_a1 := lt_of B_a1.out
  go_upto_region 8 with fail
  go_cut [8, 9, 10] from 22 (fun s8 s9 s10 wr => ∃ (a_r0 : Option Addr) (k_r0 : Nat) (b_r0 : Nat), s8 = .pointer (some ⟨b_r0, 0, none⟩) ∧ Hid (wr.heap[b_r0]? = some (.cells #[.int .i64 ((stepActorR0 x0 x1 x2)).pc, (Value.slice a_r0 ((stepActorR0 x0 x1 x2)).regs.length k_r0)] 43)) ∧ Hid (w2.heap.size ≤ b_r0) ∧ Hid (Own (w2.heap.size) wr (Value.slice a_r0 ((stepActorR0 x0 x1 x2)).regs.length k_r0) (((stepActorR0 x0 x1 x2)).regs)) ∧ Hid (∀ k, (Value.slice a_r0 ((stepActorR0 x0 x1 x2)).regs.length k_r0).ownBlock = some k → k < wr.heap.size) ∧ s9 = .int .i64 (stepActorR1 x0 x1 x2) ∧ s10 = .bool (stepActorR2 x0 x1 x2) ∧ Hid (Below w2.heap.size w2 wr))
  case first =>
    have HX := Lib.hid (Below.refl w2.heap.size w2)
    have ne_2_a0 := (show ¬ w2.heap.size = w.heap.size from by have := s1.out; have := s2.out; have := l_a0; omega)
    have en_2_a0 := (show ¬ w.heap.size = w2.heap.size from by have := s1.out; have := s2.out; have := l_a0; omega)
    have ne_2_a1 := (show ¬ w2.heap.size = w.heap.size + 1 from by have := s1.out; have := s2.out; have := l_a1; omega)
    have en_2_a1 := (show ¬ w.heap.size + 1 = w2.heap.size from by have := s1.out; have := s2.out; have := l_a1; omega)
    go_region_held3 (fun w' => w'.cell? ⟨w.heap.size, 0, none⟩ = some (.int .i64 (x0).ins) ∧ w'.cell? ⟨w.heap.size, 1, none⟩ = some (.int .i64 (x0).outs) ∧ w'.cell? ⟨w.heap.size, 2, none⟩ = some (c0) ∧ w'.cell? ⟨w.heap.size + 1, 0, none⟩ = some (.int .i64 (x1).pc) ∧ w'.cell? ⟨w.heap.size + 1, 1, none⟩ = some (c1)) (go_keep) (first | (go_at_call 39; refine (toPrg_any _ x0 _ ⟨_, rfl, HA0.out.below (bl2 HB.out (by first | exact Below.refl _ _ | exact (Below.refl _ _).drew | exact (Below.refl _ _).al _ | exact ((Below.refl _ _).al _).al _ | exact ((Below.refl _ _).al _).drew | exact ((Below.refl _ _).drew).al _ | exact (((Below.refl _ _).al _).al _).drew))⟩ HS0.out).mono ?_; rintro e w3 ⟨v_t0, rfl, ⟨c_t0, rfl, o_t0⟩, hb3⟩; have hc3 : Below w2.heap.size w2 w3 := (by first | exact hb3 | exact cr_d hb3 | exact cr_1 hb3 | exact cr_2 hb3 | exact cr_1d hb3 | exact cr_2d hb3 | exact cr_d1 hb3); have s3 := Lib.hid (show w2.heap.size + 0 ≤ w3.heap.size from by exact hc3.size); (try (have ZP := Lib.hid (lt_of BZ.out); clear z_0 z_1 z_l zf0 zf1; replace BZ := Lib.hid (blk_in BZ.out hc3); obtain ⟨z_0, z_1⟩ := cells2 BZ.out; have z_l := lt_of BZ.out; have zf0 := fr_of BZ.out 0; have zf1 := fr_of BZ.out 1)); (try (have BZ := Lib.hid (blk_in (by exact hp1 w2 (.cells #[.int .i64 0, .slice none 0 0] 43)) hb3 : w3.heap[w2.heap.size]? = some (.cells #[.int .i64 0, .slice none 0 0] 43)); have ZS := Lib.hid HX.out.size; obtain ⟨z_0, z_1⟩ := cells2 BZ.out; have z_l := lt_of BZ.out; have zf0 := fr_of BZ.out 0; have zf1 := fr_of BZ.out 1)); clear c_a0_0 c_a0_1 c_a0_2 l_a0; clear c_a1_0 c_a1_1 l_a1; replace B_a0 := Lib.hid (blk_in B_a0.out hc3); replace B_a1 := Lib.hid (blk_in B_a1.out hc3); obtain ⟨a_t0, k_t0, rfl⟩ := o_t0.shape; have u_t0 := Lib.hid (show ∀ k, (Value.slice a_t0 (x0).code.length k_t0).ownBlock = some k → k < w3.heap.size from fun k e => (o_t0.lt k e).2); replace o_t0 := Lib.hid (OwnI.mono (lo' := w2.heap.size + 0) o_t0 (by first | exact Nat.le_refl _ | simp)); replace HB := Lib.hid (HB.out.trans (hc3.mono HB.out.size)); replace HX := Lib.hid (HX.out.trans (hc3.mono HX.out.size)); clear hc3 hb3; obtain ⟨c_a0_0, c_a0_1, c_a0_2⟩ := cells3 B_a0.out; have l_a0 := lt_of B_a0.out; obtain ⟨c_a1_0, c_a1_1⟩ := cells2 B_a1.out; have l_a1 := lt_of B_a1.out; have ne_3_a0 := (show ¬ w3.heap.size = w.heap.size from by have := s1.out; have := s2.out; have := s3.out; have := l_a0; omega); have en_3_a0 := (show ¬ w.heap.size = w3.heap.size from by have := s1.out; have := s2.out; have := s3.out; have := l_a0; omega); have ne_3_a1 := (show ¬ w3.heap.size = w.heap.size + 1 from by have := s1.out; have := s2.out; have := s3.out; have := l_a1; omega); have en_3_a1 := (show ¬ w.heap.size + 1 = w3.heap.size from by have := s1.out; have := s2.out; have := s3.out; have := l_a1; omega)) | (go_at_call 40; refine (toAct_any _ x1 _ ⟨_, rfl, HA1.out.below (bl2 HB.out (by first | exact Below.refl _ _ | exact (Below.refl _ _).drew | exact (Below.refl _ _).al _ | exact ((Below.refl _ _).al _).al _ | exact ((Below.refl _ _).al _).drew | exact ((Below.refl _ _).drew).al _ | exact (((Below.refl _ _).al _).al _).drew))⟩ HS1.out).mono ?_; rintro e w4 ⟨v_t1, rfl, ⟨c_t1, rfl, o_t1⟩, hb4⟩; have hc4 : Below w3.heap.size w3 w4 := (by first | exact hb4 | exact cr_d hb4 | exact cr_1 hb4 | exact cr_2 hb4 | exact cr_1d hb4 | exact cr_2d hb4 | exact cr_d1 hb4); have s4 := Lib.hid (show w3.heap.size + 0 ≤ w4.heap.size from by exact hc4.size); (try (have ZP := Lib.hid (lt_of BZ.out); clear z_0 z_1 z_l zf0 zf1; replace BZ := Lib.hid (blk_in BZ.out hc4); obtain ⟨z_0, z_1⟩ := cells2 BZ.out; have z_l := lt_of BZ.out; have zf0 := fr_of BZ.out 0; have zf1 := fr_of BZ.out 1)); (try (have BZ := Lib.hid (blk_in (by exact hp1 w3 (.cells #[.int .i64 0, .slice none 0 0] 43)) hb4 : w4.heap[w3.heap.size]? = some (.cells #[.int .i64 0, .slice none 0 0] 43)); have ZS := Lib.hid HX.out.size; obtain ⟨z_0, z_1⟩ := cells2 BZ.out; have z_l := lt_of BZ.out; have zf0 := fr_of BZ.out 0; have zf1 := fr_of BZ.out 1)); clear c_a0_0 c_a0_1 c_a0_2 l_a0; clear c_a1_0 c_a1_1 l_a1; replace B_a0 := Lib.hid (blk_in B_a0.out hc4); replace B_a1 := Lib.hid (blk_in B_a1.out hc4); replace o_t0 := Lib.hid (o_t0.out.below hc4); obtain ⟨a_t1, k_t1, rfl⟩ := o_t1.shape; have u_t1 := Lib.hid (show ∀ k, (Value.slice a_t1 (x1).regs.length k_t1).ownBlock = some k → k < w4.heap.size from fun k e => (o_t1.lt k e).2); replace o_t1 := Lib.hid (Own.mono (lo' := w3.heap.size + 0) o_t1 (by first | exact Nat.le_refl _ | simp)); replace HB := Lib.hid (HB.out.trans (hc4.mono HB.out.size)); replace HX := Lib.hid (HX.out.trans (hc4.mono HX.out.size)); clear hc4 hb4; obtain ⟨c_a0_0, c_a0_1, c_a0_2⟩ := cells3 B_a0.out; have l_a0 := lt_of B_a0.out; obtain ⟨c_a1_0, c_a1_1⟩ := cells2 B_a1.out; have l_a1 := lt_of B_a1.out; have ne_4_a0 := (show ¬ w4.heap.size = w.heap.size from by have := s1.out; have := s2.out; have := s3.out; have := s4.out; have := l_a0; omega); have en_4_a0 := (show ¬ w.heap.size = w4.heap.size from by have := s1.out; have := s2.out; have := s3.out; have := s4.out; have := l_a0; omega); have ne_4_a1 := (show ¬ w4.heap.size = w.heap.size + 1 from by have := s1.out; have := s2.out; have := s3.out; have := s4.out; have := l_a1; omega); have en_4_a1 := (show ¬ w.heap.size + 1 = w4.heap.size from by have := s1.out; have := s2.out; have := s3.out; have := s4.out; have := l_a1; omega)) | (go_at_call 38; refine (sstepR_any _ _ x0 x1 x2 _ ⟨_, rfl, (o_t0.out.below (by first | exact Below.refl _ _ | exact (Below.refl _ _).drew | exact (Below.refl _ _).al _ | exact ((Below.refl _ _).al _).al _ | exact ((Below.refl _ _).al _).drew | exact ((Below.refl _ _).drew).al _ | exact (((Below.refl _ _).al _).al _).drew)).sl⟩ ⟨_, rfl, (o_t1.out.below (by first | exact Below.refl _ _ | exact (Below.refl _ _).drew | exact (Below.refl _ _).al _ | exact ((Below.refl _ _).al _).al _ | exact ((Below.refl _ _).al _).drew | exact ((Below.refl _ _).drew).al _ | exact (((Below.refl _ _).al _).al _).drew)).sl⟩ h2).mono ?_; rintro e w5 ⟨v_r0, rfl, ⟨c_r0, rfl, o_r0⟩, hb5⟩; have hc5 : Below w4.heap.size w4 w5 := (by first | exact hb5 | exact cr_d hb5 | exact cr_1 hb5 | exact cr_2 hb5 | exact cr_1d hb5 | exact cr_2d hb5 | exact cr_d1 hb5); have s5 := Lib.hid (show w4.heap.size + 0 ≤ w5.heap.size from by exact hc5.size); (try (have ZP := Lib.hid (lt_of BZ.out); clear z_0 z_1 z_l zf0 zf1; replace BZ := Lib.hid (blk_in BZ.out hc5); obtain ⟨z_0, z_1⟩ := cells2 BZ.out; have z_l := lt_of BZ.out; have zf0 := fr_of BZ.out 0; have zf1 := fr_of BZ.out 1)); (try (have BZ := Lib.hid (blk_in (by exact hp1 w4 (.cells #[.int .i64 0, .slice none 0 0] 43)) hb5 : w5.heap[w4.heap.size]? = some (.cells #[.int .i64 0, .slice none 0 0] 43)); have ZS := Lib.hid HX.out.size; obtain ⟨z_0, z_1⟩ := cells2 BZ.out; have z_l := lt_of BZ.out; have zf0 := fr_of BZ.out 0; have zf1 := fr_of BZ.out 1)); (try (have OZ := Lib.hid (Own.mono (lo' := w4.heap.size + 1) o_r0 (by simp)))); clear c_a0_0 c_a0_1 c_a0_2 l_a0; clear c_a1_0 c_a1_1 l_a1; replace B_a0 := Lib.hid (blk_in B_a0.out hc5); replace B_a1 := Lib.hid (blk_in B_a1.out hc5); replace o_t0 := Lib.hid (o_t0.out.below hc5); replace o_t1 := Lib.hid (o_t1.out.below hc5); obtain ⟨a_r0, k_r0, rfl⟩ := o_r0.shape; have u_r0 := Lib.hid (show ∀ k, (Value.slice a_r0 ((stepActorR0 x0 x1 x2)).regs.length k_r0).ownBlock = some k → k < w5.heap.size from fun k e => (o_r0.lt k e).2); replace o_r0 := Lib.hid (Own.mono (lo' := w4.heap.size + 0) o_r0 (by first | exact Nat.le_refl _ | simp)); replace HB := Lib.hid (HB.out.trans (hc5.mono HB.out.size)); replace HX := Lib.hid (HX.out.trans (hc5.mono HX.out.size)); clear hc5 hb5; obtain ⟨c_a0_0, c_a0_1, c_a0_2⟩ := cells3 B_a0.out; have l_a0 := lt_of B_a0.out; obtain ⟨c_a1_0, c_a1_1⟩ := cells2 B_a1.out; have l_a1 := lt_of B_a1.out; have ne_5_a0 := (show ¬ w5.heap.size = w.heap.size from by have := s1.out; have := s2.out; have := s3.out; have := s4.out; have := s5.out; have := l_a0; omega); have en_5_a0 := (show ¬ w.heap.size = w5.heap.size from by have := s1.out; have := s2.out; have := s3.out; have := s4.out; have := s5.out; have := l_a0; omega); have ne_5_a1 := (show ¬ w5.heap.size = w.heap.size + 1 from by have := s1.out; have := s2.out; have := s3.out; have := s4.out; have := s5.out; have := l_a1; omega); have en_5_a1 := (show ¬ w.heap.size + 1 = w5.heap.size from by have := s1.out; have := s2.out; have := s3.out; have := s4.out; have := s5.out; have := l_a1; omega)))
    all_goals
      go_wp2_with fail
      go_meet
      case rel =>
        refine ⟨a_r0, k_r0, _, rfl, ?_, ?_, ?_, ?_, rfl, rfl, ?_⟩
        · first | with_reducible exact Lib.hid (hp1 _ _) | with_reducible exact Lib.hid (setN2 (hp1 _ _)) | with_reducible exact Lib.hid (setN2 BZ.out)
        · first | with_reducible exact Lib.hid ZS.out | with_reducible exact Lib.hid HX.out.size
        · refine Lib.hid ?_
          first | with_reducible refine Own.setN ?_ (Own.setN ?_ ?_) | with_reducible refine Own.alN (Own.setN ?_ (Own.setN ?_ ?_)) | with_reducible refine Own.alN ?_
          all_goals first
          | exact Own.mono o_r0.out (by have := HX.out.size; have := s3.out; have := s4.out; have := s5.out; omega)
          | exact Own.mono (Own.alN o_r0.out) (by have := HX.out.size; have := s3.out; have := s4.out; have := s5.out; omega)
          | (intro k e q; dsimp only at q; have h1 := (o_r0.out.lt k e).1; have h2 := u_r0.out k e; have := HX.out.size; have := s3.out; have := s4.out; have := s5.out; omega)
          | (intro k e q; dsimp only at q; have h1 := (o_r0.out.lt k e).1; have h3 := ZP.out; have := s3.out; have := s4.out; have := s5.out; omega)
          | (intro k e q; dsimp only at q; have h1 := (OZ.out.lt k e).1; have h2 := u_r0.out k e; have := HX.out.size; have := s3.out; have := s4.out; have := s5.out; omega)
        · first | exact Lib.hid (fun k e => by have := u_r0.out k e; simp; omega) | exact Lib.hid (fun k e => by have := u_r0.out k e; simpa using this)
        · first | with_reducible exact Lib.hid (HX.out.al _) | with_reducible exact Lib.hid (((HX.out.al _).setCell HX.out.size _).setCell HX.out.size _) | with_reducible exact Lib.hid ((HX.out.setCell ZS.out _).setCell ZS.out _)
  rename World => w3
  obtain ⟨a_r0, k_r0, b_r0, rfl, N_r0, g_r0, o_r0, u_r0, rfl, rfl, hb3⟩ := hcut
  replace hb3 := hb3.out
  have hc3 : Below w2.heap.size w2 w3 := (by first | exact hb3 | exact cr_d hb3 | exact cr_1 hb3 | exact cr_2 hb3 | exact cr_1d hb3 | exact cr_2d hb3 | exact cr_d1 hb3)
  have s3 := Lib.hid (show w2.heap.size + 0 ≤ w3.heap.size from by exact hc3.size)
  clear c_a0_0 c_a0_1 c_a0_2 l_a0
  clear c_a1_0 c_a1_1 l_a1
  replace B_a0 := Lib.hid (blk_in B_a0.out hc3)
  replace B_a1 := Lib.hid (blk_in B_a1.out hc3)
  replace HB := Lib.hid (HB.out.trans (hc3.mono HB.out.size))
  clear hc3 hb3
  obtain ⟨c_a0_0, c_a0_1, c_a0_2⟩ := cells3 B_a0.out
  have l_a0 := lt_of B_a0.out
  obtain ⟨c_a1_0, c_a1_1⟩ := cells2 B_a1.out
  have l_a1 := lt_of B_a1.out
  have B_r0 := N_r0
  clear N_r0
  have gh_r0 := Lib.hid (lt_of B_r0.out)
  obtain ⟨c_r0_0, c_r0_1⟩ := cells2 B_r0.out
  have l_r0 := lt_of B_r0.out
  go_wp2_with fail
  refine (toPrg_any _ x0 _ ⟨_, rfl, HA0.out.below (bl2 HB.out (by first | exact Below.refl _ _ | exact (Below.refl _ _).drew | exact (Below.refl _ _).al _ | exact ((Below.refl _ _).al _).al _ | exact ((Below.refl _ _).al _).drew | exact ((Below.refl _ _).drew).al _ | exact (((Below.refl _ _).al _).al _).drew))⟩ HS0.out).mono ?_
  rintro e w4 ⟨v_y0, rfl, ⟨c_y0, rfl, o_y0⟩, hb4⟩
  have hc4 : Below w3.heap.size w3 w4 := (by first | exact hb4 | exact cr_d hb4 | exact cr_1 hb4 | exact cr_2 hb4 | exact cr_1d hb4 | exact cr_2d hb4 | exact cr_d1 hb4)
  have s4 := Lib.hid (show w3.heap.size + 0 ≤ w4.heap.size from by exact hc4.size)
  clear c_a0_0 c_a0_1 c_a0_2 l_a0
  clear c_a1_0 c_a1_1 l_a1
  clear c_r0_0 c_r0_1 l_r0
  replace B_a0 := Lib.hid (blk_in B_a0.out hc4)
  replace B_a1 := Lib.hid (blk_in B_a1.out hc4)
  replace B_r0 := Lib.hid (blk_in B_r0.out hc4)
  replace o_r0 := Lib.hid (o_r0.out.below hc4)
  obtain ⟨a_y0, k_y0, rfl⟩ := o_y0.shape
  have u_y0 := Lib.hid (show ∀ k, (Value.slice a_y0 (x0).code.length k_y0).ownBlock = some k → k < w4.heap.size from fun k e => (o_y0.lt k e).2)
  replace o_y0 := Lib.hid (OwnI.mono (lo' := w3.heap.size + 0) o_y0 (by first | exact Nat.le_refl _ | simp))
  replace HB := Lib.hid (HB.out.trans (hc4.mono HB.out.size))
  clear hc4 hb4
  obtain ⟨c_a0_0, c_a0_1, c_a0_2⟩ := cells3 B_a0.out
  have l_a0 := lt_of B_a0.out
  obtain ⟨c_a1_0, c_a1_1⟩ := cells2 B_a1.out
  have l_a1 := lt_of B_a1.out
  obtain ⟨c_r0_0, c_r0_1⟩ := cells2 B_r0.out
  have l_r0 := lt_of B_r0.out
  go_wp2_with fail
  refine (toAct_any _ x1 _ ⟨_, rfl, HA1.out.below (bl2 HB.out (by first | exact Below.refl _ _ | exact (Below.refl _ _).drew | exact (Below.refl _ _).al _ | exact ((Below.refl _ _).al _).al _ | exact ((Below.refl _ _).al _).drew | exact ((Below.refl _ _).drew).al _ | exact (((Below.refl _ _).al _).al _).drew))⟩ HS1.out).mono ?_
  rintro e w5 ⟨v_y1, rfl, ⟨c_y1, rfl, o_y1⟩, hb5⟩
  have hc5 : Below w4.heap.size w4 w5 := (by first | exact hb5 | exact cr_d hb5 | exact cr_1 hb5 | exact cr_2 hb5 | exact cr_1d hb5 | exact cr_2d hb5 | exact cr_d1 hb5)
  have s5 := Lib.hid (show w4.heap.size + 1 ≤ w5.heap.size from by have := hb5.size; simp at this; omega)
  clear c_a0_0 c_a0_1 c_a0_2 l_a0
  clear c_a1_0 c_a1_1 l_a1
  clear c_r0_0 c_r0_1 l_r0
  replace B_a0 := Lib.hid (blk_in B_a0.out hc5)
  replace B_a1 := Lib.hid (blk_in B_a1.out hc5)
  replace B_r0 := Lib.hid (blk_in B_r0.out hc5)
  have B_y0 := Lib.hid (show w5.heap[w4.heap.size]? = some (.cells #[.int .i64 (x0).ins, .int .i64 (x0).outs, (Value.slice a_y0 (x0).code.length k_y0)] 31) from blk_in (hp1 _ _) hb5)
  replace o_r0 := Lib.hid (o_r0.out.below hc5)
  replace o_y0 := Lib.hid (o_y0.out.below hc5)
  obtain ⟨a_y1, k_y1, rfl⟩ := o_y1.shape
  have u_y1 := Lib.hid (show ∀ k, (Value.slice a_y1 (x1).regs.length k_y1).ownBlock = some k → k < w5.heap.size from fun k e => (o_y1.lt k e).2)
  replace o_y1 := Lib.hid (Own.mono (lo' := w4.heap.size + 1) o_y1 (by first | exact Nat.le_refl _ | simp))
  replace HB := Lib.hid (HB.out.trans (hc5.mono HB.out.size))
  clear hc5 hb5
  obtain ⟨c_a0_0, c_a0_1, c_a0_2⟩ := cells3 B_a0.out
  have l_a0 := lt_of B_a0.out
  obtain ⟨c_a1_0, c_a1_1⟩ := cells2 B_a1.out
  have l_a1 := lt_of B_a1.out
  obtain ⟨c_r0_0, c_r0_1⟩ := cells2 B_r0.out
  have l_r0 := lt_of B_r0.out
  obtain ⟨c_y0_0, c_y0_1, c_y0_2⟩ := cells3 B_y0.out
  have l_y0 := lt_of B_y0.out
  go_wp2_with fail
  refine (istepR_any _ _ x0 x1 x2 _ ⟨_, rfl, (o_y0.out.below (by first | exact Below.refl _ _ | exact (Below.refl _ _).drew | exact (Below.refl _ _).al _ | exact ((Below.refl _ _).al _).al _ | exact ((Below.refl _ _).al _).drew | exact ((Below.refl _ _).drew).al _ | exact (((Below.refl _ _).al _).al _).drew)).sl⟩ ⟨_, rfl, (o_y1.out.below (by first | exact Below.refl _ _ | exact (Below.refl _ _).drew | exact (Below.refl _ _).al _ | exact ((Below.refl _ _).al _).al _ | exact ((Below.refl _ _).al _).drew | exact ((Below.refl _ _).drew).al _ | exact (((Below.refl _ _).al _).al _).drew)).sl⟩ h2).mono ?_
  rintro e w6 ⟨v_g0, rfl, ⟨c_g0, rfl, o_g0⟩, hb6⟩
  have hc6 : Below w5.heap.size w5 w6 := (by first | exact hb6 | exact cr_d hb6 | exact cr_1 hb6 | exact cr_2 hb6 | exact cr_1d hb6 | exact cr_2d hb6 | exact cr_d1 hb6)
  have s6 := Lib.hid (show w5.heap.size + 1 ≤ w6.heap.size from by have := hb6.size; simp at this; omega)
  clear c_a0_0 c_a0_1 c_a0_2 l_a0
  clear c_a1_0 c_a1_1 l_a1
  clear c_r0_0 c_r0_1 l_r0
  clear c_y0_0 c_y0_1 c_y0_2 l_y0
  replace B_a0 := Lib.hid (blk_in B_a0.out hc6)
  replace B_a1 := Lib.hid (blk_in B_a1.out hc6)
  replace B_r0 := Lib.hid (blk_in B_r0.out hc6)
  replace B_y0 := Lib.hid (blk_in B_y0.out hc6)
  have B_y1 := Lib.hid (show w6.heap[w5.heap.size]? = some (.cells #[.int .i64 (x1).pc, (Value.slice a_y1 (x1).regs.length k_y1)] 43) from blk_in (hp1 _ _) hb6)
  replace o_r0 := Lib.hid (o_r0.out.below hc6)
  replace o_y0 := Lib.hid (o_y0.out.below hc6)
  replace o_y1 := Lib.hid (o_y1.out.below hc6)
  obtain ⟨a_g0, k_g0, rfl⟩ := o_g0.shape
  have u_g0 := Lib.hid (show ∀ k, (Value.slice a_g0 ((stepActorR0 x0 x1 x2)).regs.length k_g0).ownBlock = some k → k < w6.heap.size from fun k e => (o_g0.lt k e).2)
  replace o_g0 := Lib.hid (Own.mono (lo' := w5.heap.size + 1) o_g0 (by first | exact Nat.le_refl _ | simp))
  replace HB := Lib.hid (HB.out.trans (hc6.mono HB.out.size))
  clear hc6 hb6
  obtain ⟨c_a0_0, c_a0_1, c_a0_2⟩ := cells3 B_a0.out
  have l_a0 := lt_of B_a0.out
  obtain ⟨c_a1_0, c_a1_1⟩ := cells2 B_a1.out
  have l_a1 := lt_of B_a1.out
  obtain ⟨c_r0_0, c_r0_1⟩ := cells2 B_r0.out
  have l_r0 := lt_of B_r0.out
  obtain ⟨c_y0_0, c_y0_1, c_y0_2⟩ := cells3 B_y0.out
  have l_y0 := lt_of B_y0.out
  obtain ⟨c_y1_0, c_y1_1⟩ := cells2 B_y1.out
  have l_y1 := lt_of B_y1.out
  go_wp2_with fail
  refine (eqAct_ok _ _ (stepActorR0 x0 x1 x2) _ ⟨_, rfl, (o_g0.out.below (by first | exact Below.refl _ _ | exact (Below.refl _ _).drew | exact (Below.refl _ _).al _ | exact ((Below.refl _ _).al _).al _ | exact ((Below.refl _ _).al _).drew | exact ((Below.refl _ _).drew).al _ | exact (((Below.refl _ _).al _).al _).drew)).sl⟩ ⟨_, rfl, (o_r0.out.below (by first | exact Below.refl _ _ | exact (Below.refl _ _).drew | exact (Below.refl _ _).al _ | exact ((Below.refl _ _).al _).al _ | exact ((Below.refl _ _).al _).drew | exact ((Below.refl _ _).drew).al _ | exact (((Below.refl _ _).al _).al _).drew)).sl⟩).mono ?_
  rintro e w7 ⟨rfl, hb7⟩
  have hc7 : Below w6.heap.size w6 w7 := (by first | exact hb7 | exact cr_d hb7 | exact cr_1 hb7 | exact cr_2 hb7 | exact cr_1d hb7 | exact cr_2d hb7 | exact cr_d1 hb7)
  have s7 := Lib.hid (show w6.heap.size + 1 ≤ w7.heap.size from by have := hb7.size; simp at this; omega)
  clear c_a0_0 c_a0_1 c_a0_2 l_a0
  clear c_a1_0 c_a1_1 l_a1
  clear c_r0_0 c_r0_1 l_r0
  clear c_y0_0 c_y0_1 c_y0_2 l_y0
  clear c_y1_0 c_y1_1 l_y1
  replace B_a0 := Lib.hid (blk_in B_a0.out hc7)
  replace B_a1 := Lib.hid (blk_in B_a1.out hc7)
  replace B_r0 := Lib.hid (blk_in B_r0.out hc7)
  replace B_y0 := Lib.hid (blk_in B_y0.out hc7)
  replace B_y1 := Lib.hid (blk_in B_y1.out hc7)
  have B_g0 := Lib.hid (show w7.heap[w6.heap.size]? = some (.cells #[.int .i64 ((stepActorR0 x0 x1 x2)).pc, (Value.slice a_g0 ((stepActorR0 x0 x1 x2)).regs.length k_g0)] 43) from blk_in (hp1 _ _) hb7)
  replace o_r0 := Lib.hid (o_r0.out.below hc7)
  replace o_y0 := Lib.hid (o_y0.out.below hc7)
  replace o_y1 := Lib.hid (o_y1.out.below hc7)
  replace o_g0 := Lib.hid (o_g0.out.below hc7)
  replace HB := Lib.hid (HB.out.trans (hc7.mono HB.out.size))
  clear hc7 hb7
  obtain ⟨c_a0_0, c_a0_1, c_a0_2⟩ := cells3 B_a0.out
  have l_a0 := lt_of B_a0.out
  obtain ⟨c_a1_0, c_a1_1⟩ := cells2 B_a1.out
  have l_a1 := lt_of B_a1.out
  obtain ⟨c_r0_0, c_r0_1⟩ := cells2 B_r0.out
  have l_r0 := lt_of B_r0.out
  obtain ⟨c_y0_0, c_y0_1, c_y0_2⟩ := cells3 B_y0.out
  have l_y0 := lt_of B_y0.out
  obtain ⟨c_y1_0, c_y1_1⟩ := cells2 B_y1.out
  have l_y1 := lt_of B_y1.out
  obtain ⟨c_g0_0, c_g0_1⟩ := cells2 B_g0.out
  have l_g0 := lt_of B_g0.out
  go_upto_region 14 with fail
  go_cut [72] from 22 (fun s72 wr => s72 = .bool false ∧ Hid (Below w7.heap.size w7 wr))
  case first =>
    have HX := Lib.hid (Below.refl w7.heap.size w7)
    have ne_7_a0 := (show ¬ w7.heap.size = w.heap.size from by have := s1.out; have := s2.out; have := s3.out; have := g_r0.out; have := gh_r0.out; have := s4.out; have := s5.out; have := s6.out; have := s7.out; have := l_a0; omega)
    have en_7_a0 := (show ¬ w.heap.size = w7.heap.size from by have := s1.out; have := s2.out; have := s3.out; have := g_r0.out; have := gh_r0.out; have := s4.out; have := s5.out; have := s6.out; have := s7.out; have := l_a0; omega)
    have ne_7_a1 := (show ¬ w7.heap.size = w.heap.size + 1 from by have := s1.out; have := s2.out; have := s3.out; have := g_r0.out; have := gh_r0.out; have := s4.out; have := s5.out; have := s6.out; have := s7.out; have := l_a1; omega)
    have en_7_a1 := (show ¬ w.heap.size + 1 = w7.heap.size from by have := s1.out; have := s2.out; have := s3.out; have := g_r0.out; have := gh_r0.out; have := s4.out; have := s5.out; have := s6.out; have := s7.out; have := l_a1; omega)
    go_region_held3 (fun w' => w'.cell? ⟨w.heap.size, 0, none⟩ = some (.int .i64 (x0).ins) ∧ w'.cell? ⟨w.heap.size, 1, none⟩ = some (.int .i64 (x0).outs) ∧ w'.cell? ⟨w.heap.size, 2, none⟩ = some (c0) ∧ w'.cell? ⟨w.heap.size + 1, 0, none⟩ = some (.int .i64 (x1).pc) ∧ w'.cell? ⟨w.heap.size + 1, 1, none⟩ = some (c1) ∧ w'.cell? ⟨w4.heap.size, 0, none⟩ = some (.int .i64 (x0).ins) ∧ w'.cell? ⟨w4.heap.size, 1, none⟩ = some (.int .i64 (x0).outs) ∧ w'.cell? ⟨w4.heap.size, 2, none⟩ = some ((Value.slice a_y0 (x0).code.length k_y0)) ∧ w'.cell? ⟨w5.heap.size, 0, none⟩ = some (.int .i64 (x1).pc) ∧ w'.cell? ⟨w5.heap.size, 1, none⟩ = some ((Value.slice a_y1 (x1).regs.length k_y1)) ∧ w'.cell? ⟨w6.heap.size, 0, none⟩ = some (.int .i64 ((stepActorR0 x0 x1 x2)).pc) ∧ w'.cell? ⟨w6.heap.size, 1, none⟩ = some ((Value.slice a_g0 ((stepActorR0 x0 x1 x2)).regs.length k_g0))) (go_keep) (first | (go_at_call 39; refine (toPrg_any _ x0 _ ⟨_, rfl, HA0.out.below (bl2 HB.out (by first | exact Below.refl _ _ | exact (Below.refl _ _).drew | exact (Below.refl _ _).al _ | exact ((Below.refl _ _).al _).al _ | exact ((Below.refl _ _).al _).drew | exact ((Below.refl _ _).drew).al _ | exact (((Below.refl _ _).al _).al _).drew))⟩ HS0.out).mono ?_; rintro e w8 ⟨v_z0, rfl, ⟨c_z0, rfl, o_z0⟩, hb8⟩; have hc8 : Below w7.heap.size w7 w8 := (by first | exact hb8 | exact cr_d hb8 | exact cr_1 hb8 | exact cr_2 hb8 | exact cr_1d hb8 | exact cr_2d hb8 | exact cr_d1 hb8); have s8 := Lib.hid (show w7.heap.size + 0 ≤ w8.heap.size from by exact hc8.size); clear c_a0_0 c_a0_1 c_a0_2 l_a0; clear c_a1_0 c_a1_1 l_a1; clear c_r0_0 c_r0_1 l_r0; clear c_y0_0 c_y0_1 c_y0_2 l_y0; clear c_y1_0 c_y1_1 l_y1; clear c_g0_0 c_g0_1 l_g0; replace B_a0 := Lib.hid (blk_in B_a0.out hc8); replace B_a1 := Lib.hid (blk_in B_a1.out hc8); replace B_r0 := Lib.hid (blk_in B_r0.out hc8); replace B_y0 := Lib.hid (blk_in B_y0.out hc8); replace B_y1 := Lib.hid (blk_in B_y1.out hc8); replace B_g0 := Lib.hid (blk_in B_g0.out hc8); replace o_r0 := Lib.hid (o_r0.out.below hc8); replace o_y0 := Lib.hid (o_y0.out.below hc8); replace o_y1 := Lib.hid (o_y1.out.below hc8); replace o_g0 := Lib.hid (o_g0.out.below hc8); obtain ⟨a_z0, k_z0, rfl⟩ := o_z0.shape; have u_z0 := Lib.hid (show ∀ k, (Value.slice a_z0 (x0).code.length k_z0).ownBlock = some k → k < w8.heap.size from fun k e => (o_z0.lt k e).2); replace o_z0 := Lib.hid (OwnI.mono (lo' := w7.heap.size + 0) o_z0 (by first | exact Nat.le_refl _ | simp)); replace HB := Lib.hid (HB.out.trans (hc8.mono HB.out.size)); replace HX := Lib.hid (HX.out.trans (hc8.mono HX.out.size)); clear hc8 hb8; obtain ⟨c_a0_0, c_a0_1, c_a0_2⟩ := cells3 B_a0.out; have l_a0 := lt_of B_a0.out; obtain ⟨c_a1_0, c_a1_1⟩ := cells2 B_a1.out; have l_a1 := lt_of B_a1.out; obtain ⟨c_r0_0, c_r0_1⟩ := cells2 B_r0.out; have l_r0 := lt_of B_r0.out; obtain ⟨c_y0_0, c_y0_1, c_y0_2⟩ := cells3 B_y0.out; have l_y0 := lt_of B_y0.out; obtain ⟨c_y1_0, c_y1_1⟩ := cells2 B_y1.out; have l_y1 := lt_of B_y1.out; obtain ⟨c_g0_0, c_g0_1⟩ := cells2 B_g0.out; have l_g0 := lt_of B_g0.out; have ne_8_a0 := (show ¬ w8.heap.size = w.heap.size from by have := s1.out; have := s2.out; have := s3.out; have := g_r0.out; have := gh_r0.out; have := s4.out; have := s5.out; have := s6.out; have := s7.out; have := s8.out; have := l_a0; omega); have en_8_a0 := (show ¬ w.heap.size = w8.heap.size from by have := s1.out; have := s2.out; have := s3.out; have := g_r0.out; have := gh_r0.out; have := s4.out; have := s5.out; have := s6.out; have := s7.out; have := s8.out; have := l_a0; omega); have ne_8_a1 := (show ¬ w8.heap.size = w.heap.size + 1 from by have := s1.out; have := s2.out; have := s3.out; have := g_r0.out; have := gh_r0.out; have := s4.out; have := s5.out; have := s6.out; have := s7.out; have := s8.out; have := l_a1; omega); have en_8_a1 := (show ¬ w.heap.size + 1 = w8.heap.size from by have := s1.out; have := s2.out; have := s3.out; have := g_r0.out; have := gh_r0.out; have := s4.out; have := s5.out; have := s6.out; have := s7.out; have := s8.out; have := l_a1; omega)) | (go_at_call 42; refine (eqPrg_ok _ _ x0 _ ⟨_, rfl, (o_y0.out.below (by first | exact Below.refl _ _ | exact (Below.refl _ _).drew | exact (Below.refl _ _).al _ | exact ((Below.refl _ _).al _).al _ | exact ((Below.refl _ _).al _).drew | exact ((Below.refl _ _).drew).al _ | exact (((Below.refl _ _).al _).al _).drew)).sl⟩ ⟨_, rfl, (o_z0.out.below (by first | exact Below.refl _ _ | exact (Below.refl _ _).drew | exact (Below.refl _ _).al _ | exact ((Below.refl _ _).al _).al _ | exact ((Below.refl _ _).al _).drew | exact ((Below.refl _ _).drew).al _ | exact (((Below.refl _ _).al _).al _).drew)).sl⟩).mono ?_; rintro e w9 ⟨rfl, hb9⟩; have hc9 : Below w8.heap.size w8 w9 := (by first | exact hb9 | exact cr_d hb9 | exact cr_1 hb9 | exact cr_2 hb9 | exact cr_1d hb9 | exact cr_2d hb9 | exact cr_d1 hb9); have s9 := Lib.hid (show w8.heap.size + 0 ≤ w9.heap.size from by exact hc9.size); clear c_a0_0 c_a0_1 c_a0_2 l_a0; clear c_a1_0 c_a1_1 l_a1; clear c_r0_0 c_r0_1 l_r0; clear c_y0_0 c_y0_1 c_y0_2 l_y0; clear c_y1_0 c_y1_1 l_y1; clear c_g0_0 c_g0_1 l_g0; replace B_a0 := Lib.hid (blk_in B_a0.out hc9); replace B_a1 := Lib.hid (blk_in B_a1.out hc9); replace B_r0 := Lib.hid (blk_in B_r0.out hc9); replace B_y0 := Lib.hid (blk_in B_y0.out hc9); replace B_y1 := Lib.hid (blk_in B_y1.out hc9); replace B_g0 := Lib.hid (blk_in B_g0.out hc9); replace o_r0 := Lib.hid (o_r0.out.below hc9); replace o_y0 := Lib.hid (o_y0.out.below hc9); replace o_y1 := Lib.hid (o_y1.out.below hc9); replace o_g0 := Lib.hid (o_g0.out.below hc9); replace o_z0 := Lib.hid (o_z0.out.below hc9); replace HB := Lib.hid (HB.out.trans (hc9.mono HB.out.size)); replace HX := Lib.hid (HX.out.trans (hc9.mono HX.out.size)); clear hc9 hb9; obtain ⟨c_a0_0, c_a0_1, c_a0_2⟩ := cells3 B_a0.out; have l_a0 := lt_of B_a0.out; obtain ⟨c_a1_0, c_a1_1⟩ := cells2 B_a1.out; have l_a1 := lt_of B_a1.out; obtain ⟨c_r0_0, c_r0_1⟩ := cells2 B_r0.out; have l_r0 := lt_of B_r0.out; obtain ⟨c_y0_0, c_y0_1, c_y0_2⟩ := cells3 B_y0.out; have l_y0 := lt_of B_y0.out; obtain ⟨c_y1_0, c_y1_1⟩ := cells2 B_y1.out; have l_y1 := lt_of B_y1.out; obtain ⟨c_g0_0, c_g0_1⟩ := cells2 B_g0.out; have l_g0 := lt_of B_g0.out; have ne_9_a0 := (show ¬ w9.heap.size = w.heap.size from by have := s1.out; have := s2.out; have := s3.out; have := g_r0.out; have := gh_r0.out; have := s4.out; have := s5.out; have := s6.out; have := s7.out; have := s8.out; have := s9.out; have := l_a0; omega); have en_9_a0 := (show ¬ w.heap.size = w9.heap.size from by have := s1.out; have := s2.out; have := s3.out; have := g_r0.out; have := gh_r0.out; have := s4.out; have := s5.out; have := s6.out; have := s7.out; have := s8.out; have := s9.out; have := l_a0; omega); have ne_9_a1 := (show ¬ w9.heap.size = w.heap.size + 1 from by have := s1.out; have := s2.out; have := s3.out; have := g_r0.out; have := gh_r0.out; have := s4.out; have := s5.out; have := s6.out; have := s7.out; have := s8.out; have := s9.out; have := l_a1; omega); have en_9_a1 := (show ¬ w.heap.size + 1 = w9.heap.size from by have := s1.out; have := s2.out; have := s3.out; have := g_r0.out; have := gh_r0.out; have := s4.out; have := s5.out; have := s6.out; have := s7.out; have := s8.out; have := s9.out; have := l_a1; omega)))
    all_goals
      go_wp2_with fail
      go_meet
      case rel => exact ⟨rfl, Lib.hid HX.out⟩
  rename World => w8
  obtain ⟨rfl, hb8⟩ := hcut
  replace hb8 := hb8.out
  have hc8 : Below w7.heap.size w7 w8 := (by first | exact hb8 | exact cr_d hb8 | exact cr_1 hb8 | exact cr_2 hb8 | exact cr_1d hb8 | exact cr_2d hb8 | exact cr_d1 hb8)
  have s8 := Lib.hid (show w7.heap.size + 0 ≤ w8.heap.size from by exact hc8.size)
  clear c_a0_0 c_a0_1 c_a0_2 l_a0
  clear c_a1_0 c_a1_1 l_a1
  clear c_r0_0 c_r0_1 l_r0
  clear c_y0_0 c_y0_1 c_y0_2 l_y0
  clear c_y1_0 c_y1_1 l_y1
  clear c_g0_0 c_g0_1 l_g0
  replace B_a0 := Lib.hid (blk_in B_a0.out hc8)
  replace B_a1 := Lib.hid (blk_in B_a1.out hc8)
  replace B_r0 := Lib.hid (blk_in B_r0.out hc8)
  replace B_y0 := Lib.hid (blk_in B_y0.out hc8)
  replace B_y1 := Lib.hid (blk_in B_y1.out hc8)
  replace B_g0 := Lib.hid (blk_in B_g0.out hc8)
  replace o_r0 := Lib.hid (o_r0.out.below hc8)
  replace o_y0 := Lib.hid (o_y0.out.below hc8)
  replace o_y1 := Lib.hid (o_y1.out.below hc8)
  replace o_g0 := Lib.hid (o_g0.out.below hc8)
  replace HB := Lib.hid (HB.out.trans (hc8.mono HB.out.size))
  clear hc8 hb8
  obtain ⟨c_a0_0, c_a0_1, c_a0_2⟩ := cells3 B_a0.out
  have l_a0 := lt_of B_a0.out
  obtain ⟨c_a1_0, c_a1_1⟩ := cells2 B_a1.out
  have l_a1 := lt_of B_a1.out
  obtain ⟨c_r0_0, c_r0_1⟩ := cells2 B_r0.out
  have l_r0 := lt_of B_r0.out
  obtain ⟨c_y0_0, c_y0_1, c_y0_2⟩ := cells3 B_y0.out
  have l_y0 := lt_of B_y0.out
  obtain ⟨c_y1_0, c_y1_1⟩ := cells2 B_y1.out
  have l_y1 := lt_of B_y1.out
  obtain ⟨c_g0_0, c_g0_1⟩ := cells2 B_g0.out
  have l_g0 := lt_of B_g0.out
  go_upto_region 16 with fail
  go_cut [77] from 22 (fun s77 wr => s77 = .bool false ∧ Hid (Below w8.heap.size w8 wr))
  case first =>
    have HX := Lib.hid (Below.refl w8.heap.size w8)
    have ne_8_a0 := (show ¬ w8.heap.size = w.heap.size from by have := s1.out; have := s2.out; have := s3.out; have := g_r0.out; have := gh_r0.out; have := s4.out; have := s5.out; have := s6.out; have := s7.out; have := s8.out; have := l_a0; omega)
    have en_8_a0 := (show ¬ w.heap.size = w8.heap.size from by have := s1.out; have := s2.out; have := s3.out; have := g_r0.out; have := gh_r0.out; have := s4.out; have := s5.out; have := s6.out; have := s7.out; have := s8.out; have := l_a0; omega)
    have ne_8_a1 := (show ¬ w8.heap.size = w.heap.size + 1 from by have := s1.out; have := s2.out; have := s3.out; have := g_r0.out; have := gh_r0.out; have := s4.out; have := s5.out; have := s6.out; have := s7.out; have := s8.out; have := l_a1; omega)
    have en_8_a1 := (show ¬ w.heap.size + 1 = w8.heap.size from by have := s1.out; have := s2.out; have := s3.out; have := g_r0.out; have := gh_r0.out; have := s4.out; have := s5.out; have := s6.out; have := s7.out; have := s8.out; have := l_a1; omega)
    go_region_held3 (fun w' => w'.cell? ⟨w.heap.size, 0, none⟩ = some (.int .i64 (x0).ins) ∧ w'.cell? ⟨w.heap.size, 1, none⟩ = some (.int .i64 (x0).outs) ∧ w'.cell? ⟨w.heap.size, 2, none⟩ = some (c0) ∧ w'.cell? ⟨w.heap.size + 1, 0, none⟩ = some (.int .i64 (x1).pc) ∧ w'.cell? ⟨w.heap.size + 1, 1, none⟩ = some (c1) ∧ w'.cell? ⟨w4.heap.size, 0, none⟩ = some (.int .i64 (x0).ins) ∧ w'.cell? ⟨w4.heap.size, 1, none⟩ = some (.int .i64 (x0).outs) ∧ w'.cell? ⟨w4.heap.size, 2, none⟩ = some ((Value.slice a_y0 (x0).code.length k_y0)) ∧ w'.cell? ⟨w5.heap.size, 0, none⟩ = some (.int .i64 (x1).pc) ∧ w'.cell? ⟨w5.heap.size, 1, none⟩ = some ((Value.slice a_y1 (x1).regs.length k_y1)) ∧ w'.cell? ⟨w6.heap.size, 0, none⟩ = some (.int .i64 ((stepActorR0 x0 x1 x2)).pc) ∧ w'.cell? ⟨w6.heap.size, 1, none⟩ = some ((Value.slice a_g0 ((stepActorR0 x0 x1 x2)).regs.length k_g0))) (go_keep) (first | (go_at_call 40; refine (toAct_any _ x1 _ ⟨_, rfl, HA1.out.below (bl2 HB.out (by first | exact Below.refl _ _ | exact (Below.refl _ _).drew | exact (Below.refl _ _).al _ | exact ((Below.refl _ _).al _).al _ | exact ((Below.refl _ _).al _).drew | exact ((Below.refl _ _).drew).al _ | exact (((Below.refl _ _).al _).al _).drew))⟩ HS1.out).mono ?_; rintro e w9 ⟨v_z1, rfl, ⟨c_z1, rfl, o_z1⟩, hb9⟩; have hc9 : Below w8.heap.size w8 w9 := (by first | exact hb9 | exact cr_d hb9 | exact cr_1 hb9 | exact cr_2 hb9 | exact cr_1d hb9 | exact cr_2d hb9 | exact cr_d1 hb9); have s9 := Lib.hid (show w8.heap.size + 0 ≤ w9.heap.size from by exact hc9.size); clear c_a0_0 c_a0_1 c_a0_2 l_a0; clear c_a1_0 c_a1_1 l_a1; clear c_r0_0 c_r0_1 l_r0; clear c_y0_0 c_y0_1 c_y0_2 l_y0; clear c_y1_0 c_y1_1 l_y1; clear c_g0_0 c_g0_1 l_g0; replace B_a0 := Lib.hid (blk_in B_a0.out hc9); replace B_a1 := Lib.hid (blk_in B_a1.out hc9); replace B_r0 := Lib.hid (blk_in B_r0.out hc9); replace B_y0 := Lib.hid (blk_in B_y0.out hc9); replace B_y1 := Lib.hid (blk_in B_y1.out hc9); replace B_g0 := Lib.hid (blk_in B_g0.out hc9); replace o_r0 := Lib.hid (o_r0.out.below hc9); replace o_y0 := Lib.hid (o_y0.out.below hc9); replace o_y1 := Lib.hid (o_y1.out.below hc9); replace o_g0 := Lib.hid (o_g0.out.below hc9); obtain ⟨a_z1, k_z1, rfl⟩ := o_z1.shape; have u_z1 := Lib.hid (show ∀ k, (Value.slice a_z1 (x1).regs.length k_z1).ownBlock = some k → k < w9.heap.size from fun k e => (o_z1.lt k e).2); replace o_z1 := Lib.hid (Own.mono (lo' := w8.heap.size + 0) o_z1 (by first | exact Nat.le_refl _ | simp)); replace HB := Lib.hid (HB.out.trans (hc9.mono HB.out.size)); replace HX := Lib.hid (HX.out.trans (hc9.mono HX.out.size)); clear hc9 hb9; obtain ⟨c_a0_0, c_a0_1, c_a0_2⟩ := cells3 B_a0.out; have l_a0 := lt_of B_a0.out; obtain ⟨c_a1_0, c_a1_1⟩ := cells2 B_a1.out; have l_a1 := lt_of B_a1.out; obtain ⟨c_r0_0, c_r0_1⟩ := cells2 B_r0.out; have l_r0 := lt_of B_r0.out; obtain ⟨c_y0_0, c_y0_1, c_y0_2⟩ := cells3 B_y0.out; have l_y0 := lt_of B_y0.out; obtain ⟨c_y1_0, c_y1_1⟩ := cells2 B_y1.out; have l_y1 := lt_of B_y1.out; obtain ⟨c_g0_0, c_g0_1⟩ := cells2 B_g0.out; have l_g0 := lt_of B_g0.out; have ne_9_a0 := (show ¬ w9.heap.size = w.heap.size from by have := s1.out; have := s2.out; have := s3.out; have := g_r0.out; have := gh_r0.out; have := s4.out; have := s5.out; have := s6.out; have := s7.out; have := s8.out; have := s9.out; have := l_a0; omega); have en_9_a0 := (show ¬ w.heap.size = w9.heap.size from by have := s1.out; have := s2.out; have := s3.out; have := g_r0.out; have := gh_r0.out; have := s4.out; have := s5.out; have := s6.out; have := s7.out; have := s8.out; have := s9.out; have := l_a0; omega); have ne_9_a1 := (show ¬ w9.heap.size = w.heap.size + 1 from by have := s1.out; have := s2.out; have := s3.out; have := g_r0.out; have := gh_r0.out; have := s4.out; have := s5.out; have := s6.out; have := s7.out; have := s8.out; have := s9.out; have := l_a1; omega); have en_9_a1 := (show ¬ w.heap.size + 1 = w9.heap.size from by have := s1.out; have := s2.out; have := s3.out; have := g_r0.out; have := gh_r0.out; have := s4.out; have := s5.out; have := s6.out; have := s7.out; have := s8.out; have := s9.out; have := l_a1; omega)) | (go_at_call 41; refine (eqAct_ok _ _ x1 _ ⟨_, rfl, (o_y1.out.below (by first | exact Below.refl _ _ | exact (Below.refl _ _).drew | exact (Below.refl _ _).al _ | exact ((Below.refl _ _).al _).al _ | exact ((Below.refl _ _).al _).drew | exact ((Below.refl _ _).drew).al _ | exact (((Below.refl _ _).al _).al _).drew)).sl⟩ ⟨_, rfl, (o_z1.out.below (by first | exact Below.refl _ _ | exact (Below.refl _ _).drew | exact (Below.refl _ _).al _ | exact ((Below.refl _ _).al _).al _ | exact ((Below.refl _ _).al _).drew | exact ((Below.refl _ _).drew).al _ | exact (((Below.refl _ _).al _).al _).drew)).sl⟩).mono ?_; rintro e w10 ⟨rfl, hb10⟩; have hc10 : Below w9.heap.size w9 w10 := (by first | exact hb10 | exact cr_d hb10 | exact cr_1 hb10 | exact cr_2 hb10 | exact cr_1d hb10 | exact cr_2d hb10 | exact cr_d1 hb10); have s10 := Lib.hid (show w9.heap.size + 0 ≤ w10.heap.size from by exact hc10.size); clear c_a0_0 c_a0_1 c_a0_2 l_a0; clear c_a1_0 c_a1_1 l_a1; clear c_r0_0 c_r0_1 l_r0; clear c_y0_0 c_y0_1 c_y0_2 l_y0; clear c_y1_0 c_y1_1 l_y1; clear c_g0_0 c_g0_1 l_g0; replace B_a0 := Lib.hid (blk_in B_a0.out hc10); replace B_a1 := Lib.hid (blk_in B_a1.out hc10); replace B_r0 := Lib.hid (blk_in B_r0.out hc10); replace B_y0 := Lib.hid (blk_in B_y0.out hc10); replace B_y1 := Lib.hid (blk_in B_y1.out hc10); replace B_g0 := Lib.hid (blk_in B_g0.out hc10); replace o_r0 := Lib.hid (o_r0.out.below hc10); replace o_y0 := Lib.hid (o_y0.out.below hc10); replace o_y1 := Lib.hid (o_y1.out.below hc10); replace o_g0 := Lib.hid (o_g0.out.below hc10); replace o_z1 := Lib.hid (o_z1.out.below hc10); replace HB := Lib.hid (HB.out.trans (hc10.mono HB.out.size)); replace HX := Lib.hid (HX.out.trans (hc10.mono HX.out.size)); clear hc10 hb10; obtain ⟨c_a0_0, c_a0_1, c_a0_2⟩ := cells3 B_a0.out; have l_a0 := lt_of B_a0.out; obtain ⟨c_a1_0, c_a1_1⟩ := cells2 B_a1.out; have l_a1 := lt_of B_a1.out; obtain ⟨c_r0_0, c_r0_1⟩ := cells2 B_r0.out; have l_r0 := lt_of B_r0.out; obtain ⟨c_y0_0, c_y0_1, c_y0_2⟩ := cells3 B_y0.out; have l_y0 := lt_of B_y0.out; obtain ⟨c_y1_0, c_y1_1⟩ := cells2 B_y1.out; have l_y1 := lt_of B_y1.out; obtain ⟨c_g0_0, c_g0_1⟩ := cells2 B_g0.out; have l_g0 := lt_of B_g0.out; have ne_10_a0 := (show ¬ w10.heap.size = w.heap.size from by have := s1.out; have := s2.out; have := s3.out; have := g_r0.out; have := gh_r0.out; have := s4.out; have := s5.out; have := s6.out; have := s7.out; have := s8.out; have := s9.out; have := s10.out; have := l_a0; omega); have en_10_a0 := (show ¬ w.heap.size = w10.heap.size from by have := s1.out; have := s2.out; have := s3.out; have := g_r0.out; have := gh_r0.out; have := s4.out; have := s5.out; have := s6.out; have := s7.out; have := s8.out; have := s9.out; have := s10.out; have := l_a0; omega); have ne_10_a1 := (show ¬ w10.heap.size = w.heap.size + 1 from by have := s1.out; have := s2.out; have := s3.out; have := g_r0.out; have := gh_r0.out; have := s4.out; have := s5.out; have := s6.out; have := s7.out; have := s8.out; have := s9.out; have := s10.out; have := l_a1; omega); have en_10_a1 := (show ¬ w.heap.size + 1 = w10.heap.size from by have := s1.out; have := s2.out; have := s3.out; have := g_r0.out; have := gh_r0.out; have := s4.out; have := s5.out; have := s6.out; have := s7.out; have := s8.out; have := s9.out; have := s10.out; have := l_a1; omega)))
    all_goals
      go_wp2_with fail
      go_meet
      case rel => exact ⟨rfl, Lib.hid HX.out⟩
  rename World => w9
  obtain ⟨rfl, hb9⟩ := hcut
  replace hb9 := hb9.out
  have hc9 : Below w8.heap.size w8 w9 := (by first | exact hb9 | exact cr_d hb9 | exact cr_1 hb9 | exact cr_2 hb9 | exact cr_1d hb9 | exact cr_2d hb9 | exact cr_d1 hb9)
  have s9 := Lib.hid (show w8.heap.size + 0 ≤ w9.heap.size from by exact hc9.size)
  clear c_a0_0 c_a0_1 c_a0_2 l_a0
  clear c_a1_0 c_a1_1 l_a1
  clear c_r0_0 c_r0_1 l_r0
  clear c_y0_0 c_y0_1 c_y0_2 l_y0
  clear c_y1_0 c_y1_1 l_y1
  clear c_g0_0 c_g0_1 l_g0
  replace B_a0 := Lib.hid (blk_in B_a0.out hc9)
  replace B_a1 := Lib.hid (blk_in B_a1.out hc9)
  replace B_r0 := Lib.hid (blk_in B_r0.out hc9)
  replace B_y0 := Lib.hid (blk_in B_y0.out hc9)
  replace B_y1 := Lib.hid (blk_in B_y1.out hc9)
  replace B_g0 := Lib.hid (blk_in B_g0.out hc9)
  replace o_r0 := Lib.hid (o_r0.out.below hc9)
  replace o_y0 := Lib.hid (o_y0.out.below hc9)
  replace o_y1 := Lib.hid (o_y1.out.below hc9)
  replace o_g0 := Lib.hid (o_g0.out.below hc9)
  replace HB := Lib.hid (HB.out.trans (hc9.mono HB.out.size))
  clear hc9 hb9
  obtain ⟨c_a0_0, c_a0_1, c_a0_2⟩ := cells3 B_a0.out
  have l_a0 := lt_of B_a0.out
  obtain ⟨c_a1_0, c_a1_1⟩ := cells2 B_a1.out
  have l_a1 := lt_of B_a1.out
  obtain ⟨c_r0_0, c_r0_1⟩ := cells2 B_r0.out
  have l_r0 := lt_of B_r0.out
  obtain ⟨c_y0_0, c_y0_1, c_y0_2⟩ := cells3 B_y0.out
  have l_y0 := lt_of B_y0.out
  obtain ⟨c_y1_0, c_y1_1⟩ := cells2 B_y1.out
  have l_y1 := lt_of B_y1.out
  obtain ⟨c_g0_0, c_g0_1⟩ := cells2 B_g0.out
  have l_g0 := lt_of B_g0.out
  go_wp2_with fail
  refine (markPrg_any (w3.heap.size + 0) _ x0 (1) _ ⟨_, rfl, o_y0.out⟩ (by omega) (by have := HS0.out; have := HS1.out; omega) (by have := HS0.out; have := HS1.out; omega)).mono ?_
  rintro e w10 ⟨rfl, m_y0, hg⟩
  replace m_y0 := m_y0.c
  have hO := Out.of_grown (row := (Value.slice a_y0 (x0).code.length k_y0).ownBlock) hg (fun k e => ⟨(m_y0.lt k e).1, u_y0.out k e⟩)
  have s10 := Lib.hid (show w9.heap.size ≤ w10.heap.size from hg.size)
  clear c_a0_0 c_a0_1 c_a0_2 l_a0
  clear c_a1_0 c_a1_1 l_a1
  clear c_r0_0 c_r0_1 l_r0
  clear c_y0_0 c_y0_1 c_y0_2 l_y0
  clear c_y1_0 c_y1_1 l_y1
  clear c_g0_0 c_g0_1 l_g0
  replace B_a0 := Lib.hid (hO.blk B_a0.out (by have := s1.out; have := s2.out; have := s3.out; have := g_r0.out; have := gh_r0.out; have := s4.out; have := s5.out; have := s6.out; have := s7.out; have := s8.out; have := s9.out; omega))
  replace B_a1 := Lib.hid (hO.blk B_a1.out (by have := s1.out; have := s2.out; have := s3.out; have := g_r0.out; have := gh_r0.out; have := s4.out; have := s5.out; have := s6.out; have := s7.out; have := s8.out; have := s9.out; omega))
  replace B_r0 := Lib.hid (hO.blk B_r0.out (by have := s1.out; have := s2.out; have := s3.out; have := g_r0.out; have := gh_r0.out; have := s4.out; have := s5.out; have := s6.out; have := s7.out; have := s8.out; have := s9.out; omega))
  replace B_y0 := Lib.hid (hO.blk B_y0.out (by have := s1.out; have := s2.out; have := s3.out; have := g_r0.out; have := gh_r0.out; have := s4.out; have := s5.out; have := s6.out; have := s7.out; have := s8.out; have := s9.out; omega))
  replace B_y1 := Lib.hid (hO.blk B_y1.out (by have := s1.out; have := s2.out; have := s3.out; have := g_r0.out; have := gh_r0.out; have := s4.out; have := s5.out; have := s6.out; have := s7.out; have := s8.out; have := s9.out; omega))
  replace B_g0 := Lib.hid (hO.blk B_g0.out (by have := s1.out; have := s2.out; have := s3.out; have := g_r0.out; have := gh_r0.out; have := s4.out; have := s5.out; have := s6.out; have := s7.out; have := s8.out; have := s9.out; omega))
  replace o_r0 := Lib.hid (o_r0.out.out u_r0.out hO (by have := s1.out; have := s2.out; have := s3.out; have := g_r0.out; have := gh_r0.out; have := s4.out; have := s5.out; have := s6.out; have := s7.out; have := s8.out; have := s9.out; omega))
  replace o_y1 := Lib.hid (o_y1.out.out u_y1.out hO (by have := s1.out; have := s2.out; have := s3.out; have := g_r0.out; have := gh_r0.out; have := s4.out; have := s5.out; have := s6.out; have := s7.out; have := s8.out; have := s9.out; omega))
  replace o_g0 := Lib.hid (o_g0.out.out u_g0.out hO (by have := s1.out; have := s2.out; have := s3.out; have := g_r0.out; have := gh_r0.out; have := s4.out; have := s5.out; have := s6.out; have := s7.out; have := s8.out; have := s9.out; omega))
  replace HB := Lib.hid (hO.below HB.out HB.out.size (by have := s1.out; have := s2.out; have := s3.out; have := g_r0.out; have := gh_r0.out; have := s4.out; have := s5.out; have := s6.out; have := s7.out; have := s8.out; have := s9.out; omega))
  clear hg hO o_y0
  have o_y0 := Lib.hid m_y0
  clear m_y0
  obtain ⟨c_a0_0, c_a0_1, c_a0_2⟩ := cells3 B_a0.out
  have l_a0 := lt_of B_a0.out
  obtain ⟨c_a1_0, c_a1_1⟩ := cells2 B_a1.out
  have l_a1 := lt_of B_a1.out
  obtain ⟨c_r0_0, c_r0_1⟩ := cells2 B_r0.out
  have l_r0 := lt_of B_r0.out
  obtain ⟨c_y0_0, c_y0_1, c_y0_2⟩ := cells3 B_y0.out
  have l_y0 := lt_of B_y0.out
  obtain ⟨c_y1_0, c_y1_1⟩ := cells2 B_y1.out
  have l_y1 := lt_of B_y1.out
  obtain ⟨c_g0_0, c_g0_1⟩ := cells2 B_g0.out
  have l_g0 := lt_of B_g0.out
  go_wp2_with fail
  refine (markAct_any (w4.heap.size + 1) _ x1 (1 + 4 * (((x0).code.length : Nat) : Int)) _ ⟨_, rfl, o_y1.out⟩ (by omega) (by have := HS0.out; have := HS1.out; omega) (by have := HS0.out; have := HS1.out; omega)).mono ?_
  rintro e w11 ⟨rfl, m_y1, hg⟩
  replace m_y1 := m_y1.c
  have hO := Out.of_grown (row := (Value.slice a_y1 (x1).regs.length k_y1).ownBlock) hg (fun k e => ⟨(m_y1.lt k e).1, u_y1.out k e⟩)
  have s11 := Lib.hid (show w10.heap.size ≤ w11.heap.size from hg.size)
  clear c_a0_0 c_a0_1 c_a0_2 l_a0
  clear c_a1_0 c_a1_1 l_a1
  clear c_r0_0 c_r0_1 l_r0
  clear c_y0_0 c_y0_1 c_y0_2 l_y0
  clear c_y1_0 c_y1_1 l_y1
  clear c_g0_0 c_g0_1 l_g0
  replace B_a0 := Lib.hid (hO.blk B_a0.out (by have := s1.out; have := s2.out; have := s3.out; have := g_r0.out; have := gh_r0.out; have := s4.out; have := s5.out; have := s6.out; have := s7.out; have := s8.out; have := s9.out; have := s10.out; omega))
  replace B_a1 := Lib.hid (hO.blk B_a1.out (by have := s1.out; have := s2.out; have := s3.out; have := g_r0.out; have := gh_r0.out; have := s4.out; have := s5.out; have := s6.out; have := s7.out; have := s8.out; have := s9.out; have := s10.out; omega))
  replace B_r0 := Lib.hid (hO.blk B_r0.out (by have := s1.out; have := s2.out; have := s3.out; have := g_r0.out; have := gh_r0.out; have := s4.out; have := s5.out; have := s6.out; have := s7.out; have := s8.out; have := s9.out; have := s10.out; omega))
  replace B_y0 := Lib.hid (hO.blk B_y0.out (by have := s1.out; have := s2.out; have := s3.out; have := g_r0.out; have := gh_r0.out; have := s4.out; have := s5.out; have := s6.out; have := s7.out; have := s8.out; have := s9.out; have := s10.out; omega))
  replace B_y1 := Lib.hid (hO.blk B_y1.out (by have := s1.out; have := s2.out; have := s3.out; have := g_r0.out; have := gh_r0.out; have := s4.out; have := s5.out; have := s6.out; have := s7.out; have := s8.out; have := s9.out; have := s10.out; omega))
  replace B_g0 := Lib.hid (hO.blk B_g0.out (by have := s1.out; have := s2.out; have := s3.out; have := g_r0.out; have := gh_r0.out; have := s4.out; have := s5.out; have := s6.out; have := s7.out; have := s8.out; have := s9.out; have := s10.out; omega))
  replace o_r0 := Lib.hid (o_r0.out.out u_r0.out hO (by have := s1.out; have := s2.out; have := s3.out; have := g_r0.out; have := gh_r0.out; have := s4.out; have := s5.out; have := s6.out; have := s7.out; have := s8.out; have := s9.out; have := s10.out; omega))
  replace o_y0 := Lib.hid (o_y0.out.out u_y0.out hO (by have := s1.out; have := s2.out; have := s3.out; have := g_r0.out; have := gh_r0.out; have := s4.out; have := s5.out; have := s6.out; have := s7.out; have := s8.out; have := s9.out; have := s10.out; omega))
  replace o_g0 := Lib.hid (o_g0.out.out u_g0.out hO (by have := s1.out; have := s2.out; have := s3.out; have := g_r0.out; have := gh_r0.out; have := s4.out; have := s5.out; have := s6.out; have := s7.out; have := s8.out; have := s9.out; have := s10.out; omega))
  replace HB := Lib.hid (hO.below HB.out HB.out.size (by have := s1.out; have := s2.out; have := s3.out; have := g_r0.out; have := gh_r0.out; have := s4.out; have := s5.out; have := s6.out; have := s7.out; have := s8.out; have := s9.out; have := s10.out; omega))
  clear hg hO o_y1
  have o_y1 := Lib.hid m_y1
  clear m_y1
  obtain ⟨c_a0_0, c_a0_1, c_a0_2⟩ := cells3 B_a0.out
  have l_a0 := lt_of B_a0.out
  obtain ⟨c_a1_0, c_a1_1⟩ := cells2 B_a1.out
  have l_a1 := lt_of B_a1.out
  obtain ⟨c_r0_0, c_r0_1⟩ := cells2 B_r0.out
  have l_r0 := lt_of B_r0.out
  obtain ⟨c_y0_0, c_y0_1, c_y0_2⟩ := cells3 B_y0.out
  have l_y0 := lt_of B_y0.out
  obtain ⟨c_y1_0, c_y1_1⟩ := cells2 B_y1.out
  have l_y1 := lt_of B_y1.out
  obtain ⟨c_g0_0, c_g0_1⟩ := cells2 B_g0.out
  have l_g0 := lt_of B_g0.out
  have dk : decide (1 + 4 * (((x0).code.length : Nat) : Int) + (((x1).regs.length : Nat) : Int) < 0) = false := decide_eq_false (by omega)
  go_wp2_with fail
  refine (eqAct_ok _ _ (stepActorR0 x0 x1 x2) _ ⟨_, rfl, (o_g0.out.below (by first | exact Below.refl _ _ | exact (Below.refl _ _).drew | exact (Below.refl _ _).al _ | exact ((Below.refl _ _).al _).al _ | exact ((Below.refl _ _).al _).drew | exact ((Below.refl _ _).drew).al _ | exact (((Below.refl _ _).al _).al _).drew)).sl⟩ ⟨_, rfl, (o_r0.out.below (by first | exact Below.refl _ _ | exact (Below.refl _ _).drew | exact (Below.refl _ _).al _ | exact ((Below.refl _ _).al _).al _ | exact ((Below.refl _ _).al _).drew | exact ((Below.refl _ _).drew).al _ | exact (((Below.refl _ _).al _).al _).drew)).sl⟩).mono ?_
  rintro e w12 ⟨rfl, hb12⟩
  have hc12 : Below w11.heap.size w11 w12 := (by first | exact hb12 | exact cr_d hb12 | exact cr_1 hb12 | exact cr_2 hb12 | exact cr_1d hb12 | exact cr_2d hb12 | exact cr_d1 hb12)
  have s12 := Lib.hid (show w11.heap.size + 0 ≤ w12.heap.size from by exact hc12.size)
  clear c_a0_0 c_a0_1 c_a0_2 l_a0
  clear c_a1_0 c_a1_1 l_a1
  clear c_r0_0 c_r0_1 l_r0
  clear c_y0_0 c_y0_1 c_y0_2 l_y0
  clear c_y1_0 c_y1_1 l_y1
  clear c_g0_0 c_g0_1 l_g0
  replace B_a0 := Lib.hid (blk_in B_a0.out hc12)
  replace B_a1 := Lib.hid (blk_in B_a1.out hc12)
  replace B_r0 := Lib.hid (blk_in B_r0.out hc12)
  replace B_y0 := Lib.hid (blk_in B_y0.out hc12)
  replace B_y1 := Lib.hid (blk_in B_y1.out hc12)
  replace B_g0 := Lib.hid (blk_in B_g0.out hc12)
  replace o_r0 := Lib.hid (o_r0.out.below hc12)
  replace o_y0 := Lib.hid (o_y0.out.below hc12)
  replace o_y1 := Lib.hid (o_y1.out.below hc12)
  replace o_g0 := Lib.hid (o_g0.out.below hc12)
  replace HB := Lib.hid (HB.out.trans (hc12.mono HB.out.size))
  clear hc12 hb12
  obtain ⟨c_a0_0, c_a0_1, c_a0_2⟩ := cells3 B_a0.out
  have l_a0 := lt_of B_a0.out
  obtain ⟨c_a1_0, c_a1_1⟩ := cells2 B_a1.out
  have l_a1 := lt_of B_a1.out
  obtain ⟨c_r0_0, c_r0_1⟩ := cells2 B_r0.out
  have l_r0 := lt_of B_r0.out
  obtain ⟨c_y0_0, c_y0_1, c_y0_2⟩ := cells3 B_y0.out
  have l_y0 := lt_of B_y0.out
  obtain ⟨c_y1_0, c_y1_1⟩ := cells2 B_y1.out
  have l_y1 := lt_of B_y1.out
  obtain ⟨c_g0_0, c_g0_1⟩ := cells2 B_g0.out
  have l_g0 := lt_of B_g0.out
  go_wp2_with fail
  refine (markAct_any (w5.heap.size + 1) _ (stepActorR0 x0 x1 x2) (1) _ ⟨_, rfl, o_g0.out⟩ (by omega) (by have := stepActor_len0 x0 x1 x2;  omega) (by have := stepActor_len0 x0 x1 x2;  omega)).mono ?_
  rintro e w13 ⟨rfl, m_g0, hg⟩
  replace m_g0 := m_g0.c
  have hO := Out.of_grown (row := (Value.slice a_g0 ((stepActorR0 x0 x1 x2)).regs.length k_g0).ownBlock) hg (fun k e => ⟨(m_g0.lt k e).1, u_g0.out k e⟩)
  have s13 := Lib.hid (show w12.heap.size ≤ w13.heap.size from hg.size)
  clear c_a0_0 c_a0_1 c_a0_2 l_a0
  clear c_a1_0 c_a1_1 l_a1
  clear c_r0_0 c_r0_1 l_r0
  clear c_y0_0 c_y0_1 c_y0_2 l_y0
  clear c_y1_0 c_y1_1 l_y1
  clear c_g0_0 c_g0_1 l_g0
  replace B_a0 := Lib.hid (hO.blk B_a0.out (by have := s1.out; have := s2.out; have := s3.out; have := g_r0.out; have := gh_r0.out; have := s4.out; have := s5.out; have := s6.out; have := s7.out; have := s8.out; have := s9.out; have := s10.out; have := s11.out; have := s12.out; omega))
  replace B_a1 := Lib.hid (hO.blk B_a1.out (by have := s1.out; have := s2.out; have := s3.out; have := g_r0.out; have := gh_r0.out; have := s4.out; have := s5.out; have := s6.out; have := s7.out; have := s8.out; have := s9.out; have := s10.out; have := s11.out; have := s12.out; omega))
  replace B_r0 := Lib.hid (hO.blk B_r0.out (by have := s1.out; have := s2.out; have := s3.out; have := g_r0.out; have := gh_r0.out; have := s4.out; have := s5.out; have := s6.out; have := s7.out; have := s8.out; have := s9.out; have := s10.out; have := s11.out; have := s12.out; omega))
  replace B_y0 := Lib.hid (hO.blk B_y0.out (by have := s1.out; have := s2.out; have := s3.out; have := g_r0.out; have := gh_r0.out; have := s4.out; have := s5.out; have := s6.out; have := s7.out; have := s8.out; have := s9.out; have := s10.out; have := s11.out; have := s12.out; omega))
  replace B_y1 := Lib.hid (hO.blk B_y1.out (by have := s1.out; have := s2.out; have := s3.out; have := g_r0.out; have := gh_r0.out; have := s4.out; have := s5.out; have := s6.out; have := s7.out; have := s8.out; have := s9.out; have := s10.out; have := s11.out; have := s12.out; omega))
  replace B_g0 := Lib.hid (hO.blk B_g0.out (by have := s1.out; have := s2.out; have := s3.out; have := g_r0.out; have := gh_r0.out; have := s4.out; have := s5.out; have := s6.out; have := s7.out; have := s8.out; have := s9.out; have := s10.out; have := s11.out; have := s12.out; omega))
  replace o_r0 := Lib.hid (o_r0.out.out u_r0.out hO (by have := s1.out; have := s2.out; have := s3.out; have := g_r0.out; have := gh_r0.out; have := s4.out; have := s5.out; have := s6.out; have := s7.out; have := s8.out; have := s9.out; have := s10.out; have := s11.out; have := s12.out; omega))
  replace o_y0 := Lib.hid (o_y0.out.out u_y0.out hO (by have := s1.out; have := s2.out; have := s3.out; have := g_r0.out; have := gh_r0.out; have := s4.out; have := s5.out; have := s6.out; have := s7.out; have := s8.out; have := s9.out; have := s10.out; have := s11.out; have := s12.out; omega))
  replace o_y1 := Lib.hid (o_y1.out.out u_y1.out hO (by have := s1.out; have := s2.out; have := s3.out; have := g_r0.out; have := gh_r0.out; have := s4.out; have := s5.out; have := s6.out; have := s7.out; have := s8.out; have := s9.out; have := s10.out; have := s11.out; have := s12.out; omega))
  replace HB := Lib.hid (hO.below HB.out HB.out.size (by have := s1.out; have := s2.out; have := s3.out; have := g_r0.out; have := gh_r0.out; have := s4.out; have := s5.out; have := s6.out; have := s7.out; have := s8.out; have := s9.out; have := s10.out; have := s11.out; have := s12.out; omega))
  clear hg hO o_g0
  have o_g0 := Lib.hid m_g0
  clear m_g0
  obtain ⟨c_a0_0, c_a0_1, c_a0_2⟩ := cells3 B_a0.out
  have l_a0 := lt_of B_a0.out
  obtain ⟨c_a1_0, c_a1_1⟩ := cells2 B_a1.out
  have l_a1 := lt_of B_a1.out
  obtain ⟨c_r0_0, c_r0_1⟩ := cells2 B_r0.out
  have l_r0 := lt_of B_r0.out
  obtain ⟨c_y0_0, c_y0_1, c_y0_2⟩ := cells3 B_y0.out
  have l_y0 := lt_of B_y0.out
  obtain ⟨c_y1_0, c_y1_1⟩ := cells2 B_y1.out
  have l_y1 := lt_of B_y1.out
  obtain ⟨c_g0_0, c_g0_1⟩ := cells2 B_g0.out
  have l_g0 := lt_of B_g0.out
  have dq0_13 : decide (1 + ((((stepActorR0 x0 x1 x2)).regs.length : Nat) : Int) < 0) = false := decide_eq_false (by omega)
  go_wp2_with fail
  refine (heldAct_any _ (stepActorR0 x0 x1 x2).pc (1) (((stepActorR0 x0 x1 x2)).regs.length) _ ⟨_, rfl, (o_g0.out.below (by first | exact Below.refl _ _ | exact (Below.refl _ _).drew | exact (Below.refl _ _).al _ | exact ((Below.refl _ _).al _).al _ | exact ((Below.refl _ _).al _).drew | exact ((Below.refl _ _).drew).al _ | exact (((Below.refl _ _).al _).al _).drew)).sl⟩ (by omega) (by have := stepActor_len0 x0 x1 x2;  omega) (by have := stepActor_len0 x0 x1 x2;  omega)).mono ?_
  rintro e w14 ⟨rfl, hb14⟩
  have hc14 : Below w13.heap.size w13 w14 := (by first | exact hb14 | exact cr_d hb14 | exact cr_1 hb14 | exact cr_2 hb14 | exact cr_1d hb14 | exact cr_2d hb14 | exact cr_d1 hb14)
  have s14 := Lib.hid (show w13.heap.size + 0 ≤ w14.heap.size from by exact hc14.size)
  clear c_a0_0 c_a0_1 c_a0_2 l_a0
  clear c_a1_0 c_a1_1 l_a1
  clear c_r0_0 c_r0_1 l_r0
  clear c_y0_0 c_y0_1 c_y0_2 l_y0
  clear c_y1_0 c_y1_1 l_y1
  clear c_g0_0 c_g0_1 l_g0
  replace B_a0 := Lib.hid (blk_in B_a0.out hc14)
  replace B_a1 := Lib.hid (blk_in B_a1.out hc14)
  replace B_r0 := Lib.hid (blk_in B_r0.out hc14)
  replace B_y0 := Lib.hid (blk_in B_y0.out hc14)
  replace B_y1 := Lib.hid (blk_in B_y1.out hc14)
  replace B_g0 := Lib.hid (blk_in B_g0.out hc14)
  replace o_r0 := Lib.hid (o_r0.out.below hc14)
  replace o_y0 := Lib.hid (o_y0.out.below hc14)
  replace o_y1 := Lib.hid (o_y1.out.below hc14)
  replace o_g0 := Lib.hid (o_g0.out.below hc14)
  replace HB := Lib.hid (HB.out.trans (hc14.mono HB.out.size))
  clear hc14 hb14
  obtain ⟨c_a0_0, c_a0_1, c_a0_2⟩ := cells3 B_a0.out
  have l_a0 := lt_of B_a0.out
  obtain ⟨c_a1_0, c_a1_1⟩ := cells2 B_a1.out
  have l_a1 := lt_of B_a1.out
  obtain ⟨c_r0_0, c_r0_1⟩ := cells2 B_r0.out
  have l_r0 := lt_of B_r0.out
  obtain ⟨c_y0_0, c_y0_1, c_y0_2⟩ := cells3 B_y0.out
  have l_y0 := lt_of B_y0.out
  obtain ⟨c_y1_0, c_y1_1⟩ := cells2 B_y1.out
  have l_y1 := lt_of B_y1.out
  obtain ⟨c_g0_0, c_g0_1⟩ := cells2 B_g0.out
  have l_g0 := lt_of B_g0.out
  go_upto_region 31 with fail
  go_cut [19, 20, 21] from 22 (fun s19 s20 s21 wr => ∃ (a_k0 : Option Addr) (k_k0 : Nat) (b_k0 : Nat), s19 = .pointer (some ⟨b_k0, 0, none⟩) ∧ Hid (wr.heap[b_k0]? = some (.cells #[.int .i64 ((stepActorR0 x0 x1 x2)).pc, (Value.slice a_k0 ((stepActorR0 x0 x1 x2)).regs.length k_k0)] 43)) ∧ Hid (w14.heap.size ≤ b_k0) ∧ Hid (Own (w14.heap.size) wr (Value.slice a_k0 ((stepActorR0 x0 x1 x2)).regs.length k_k0) (((stepActorR0 x0 x1 x2)).regs)) ∧ Hid (∀ k, (Value.slice a_k0 ((stepActorR0 x0 x1 x2)).regs.length k_k0).ownBlock = some k → k < wr.heap.size) ∧ s20 = .int .i64 (stepActorR1 x0 x1 x2) ∧ s21 = .bool (stepActorR2 x0 x1 x2) ∧ Hid (Below w14.heap.size w14 wr))
  case first =>
    have HX := Lib.hid (Below.refl w14.heap.size w14)
    have ne_14_a0 := (show ¬ w14.heap.size = w.heap.size from by have := s1.out; have := s2.out; have := s3.out; have := g_r0.out; have := gh_r0.out; have := s4.out; have := s5.out; have := s6.out; have := s7.out; have := s8.out; have := s9.out; have := s10.out; have := s11.out; have := s12.out; have := s13.out; have := s14.out; have := l_a0; omega)
    have en_14_a0 := (show ¬ w.heap.size = w14.heap.size from by have := s1.out; have := s2.out; have := s3.out; have := g_r0.out; have := gh_r0.out; have := s4.out; have := s5.out; have := s6.out; have := s7.out; have := s8.out; have := s9.out; have := s10.out; have := s11.out; have := s12.out; have := s13.out; have := s14.out; have := l_a0; omega)
    have ne_14_a1 := (show ¬ w14.heap.size = w.heap.size + 1 from by have := s1.out; have := s2.out; have := s3.out; have := g_r0.out; have := gh_r0.out; have := s4.out; have := s5.out; have := s6.out; have := s7.out; have := s8.out; have := s9.out; have := s10.out; have := s11.out; have := s12.out; have := s13.out; have := s14.out; have := l_a1; omega)
    have en_14_a1 := (show ¬ w.heap.size + 1 = w14.heap.size from by have := s1.out; have := s2.out; have := s3.out; have := g_r0.out; have := gh_r0.out; have := s4.out; have := s5.out; have := s6.out; have := s7.out; have := s8.out; have := s9.out; have := s10.out; have := s11.out; have := s12.out; have := s13.out; have := s14.out; have := l_a1; omega)
    go_region_held3 (fun w' => w'.cell? ⟨w.heap.size, 0, none⟩ = some (.int .i64 (x0).ins) ∧ w'.cell? ⟨w.heap.size, 1, none⟩ = some (.int .i64 (x0).outs) ∧ w'.cell? ⟨w.heap.size, 2, none⟩ = some (c0) ∧ w'.cell? ⟨w.heap.size + 1, 0, none⟩ = some (.int .i64 (x1).pc) ∧ w'.cell? ⟨w.heap.size + 1, 1, none⟩ = some (c1)) (go_keep) (first | (go_at_call 39; refine (toPrg_any _ x0 _ ⟨_, rfl, HA0.out.below (bl2 HB.out (by first | exact Below.refl _ _ | exact (Below.refl _ _).drew | exact (Below.refl _ _).al _ | exact ((Below.refl _ _).al _).al _ | exact ((Below.refl _ _).al _).drew | exact ((Below.refl _ _).drew).al _ | exact (((Below.refl _ _).al _).al _).drew))⟩ HS0.out).mono ?_; rintro e w15 ⟨v_q0, rfl, ⟨c_q0, rfl, o_q0⟩, hb15⟩; have hc15 : Below w14.heap.size w14 w15 := (by first | exact hb15 | exact cr_d hb15 | exact cr_1 hb15 | exact cr_2 hb15 | exact cr_1d hb15 | exact cr_2d hb15 | exact cr_d1 hb15); have s15 := Lib.hid (show w14.heap.size + 0 ≤ w15.heap.size from by exact hc15.size); (try (have ZP := Lib.hid (lt_of BZ.out); clear z_0 z_1 z_l zf0 zf1; replace BZ := Lib.hid (blk_in BZ.out hc15); obtain ⟨z_0, z_1⟩ := cells2 BZ.out; have z_l := lt_of BZ.out; have zf0 := fr_of BZ.out 0; have zf1 := fr_of BZ.out 1)); (try (have BZ := Lib.hid (blk_in (by exact hp1 w14 (.cells #[.int .i64 0, .slice none 0 0] 43)) hb15 : w15.heap[w14.heap.size]? = some (.cells #[.int .i64 0, .slice none 0 0] 43)); have ZS := Lib.hid HX.out.size; obtain ⟨z_0, z_1⟩ := cells2 BZ.out; have z_l := lt_of BZ.out; have zf0 := fr_of BZ.out 0; have zf1 := fr_of BZ.out 1)); clear c_a0_0 c_a0_1 c_a0_2 l_a0; clear c_a1_0 c_a1_1 l_a1; clear c_r0_0 c_r0_1 l_r0; clear c_y0_0 c_y0_1 c_y0_2 l_y0; clear c_y1_0 c_y1_1 l_y1; clear c_g0_0 c_g0_1 l_g0; replace B_a0 := Lib.hid (blk_in B_a0.out hc15); replace B_a1 := Lib.hid (blk_in B_a1.out hc15); replace B_r0 := Lib.hid (blk_in B_r0.out hc15); replace B_y0 := Lib.hid (blk_in B_y0.out hc15); replace B_y1 := Lib.hid (blk_in B_y1.out hc15); replace B_g0 := Lib.hid (blk_in B_g0.out hc15); replace o_r0 := Lib.hid (o_r0.out.below hc15); replace o_y0 := Lib.hid (o_y0.out.below hc15); replace o_y1 := Lib.hid (o_y1.out.below hc15); replace o_g0 := Lib.hid (o_g0.out.below hc15); obtain ⟨a_q0, k_q0, rfl⟩ := o_q0.shape; have u_q0 := Lib.hid (show ∀ k, (Value.slice a_q0 (x0).code.length k_q0).ownBlock = some k → k < w15.heap.size from fun k e => (o_q0.lt k e).2); replace o_q0 := Lib.hid (OwnI.mono (lo' := w14.heap.size + 0) o_q0 (by first | exact Nat.le_refl _ | simp)); replace HB := Lib.hid (HB.out.trans (hc15.mono HB.out.size)); replace HX := Lib.hid (HX.out.trans (hc15.mono HX.out.size)); clear hc15 hb15; obtain ⟨c_a0_0, c_a0_1, c_a0_2⟩ := cells3 B_a0.out; have l_a0 := lt_of B_a0.out; obtain ⟨c_a1_0, c_a1_1⟩ := cells2 B_a1.out; have l_a1 := lt_of B_a1.out; obtain ⟨c_r0_0, c_r0_1⟩ := cells2 B_r0.out; have l_r0 := lt_of B_r0.out; obtain ⟨c_y0_0, c_y0_1, c_y0_2⟩ := cells3 B_y0.out; have l_y0 := lt_of B_y0.out; obtain ⟨c_y1_0, c_y1_1⟩ := cells2 B_y1.out; have l_y1 := lt_of B_y1.out; obtain ⟨c_g0_0, c_g0_1⟩ := cells2 B_g0.out; have l_g0 := lt_of B_g0.out; have ne_15_a0 := (show ¬ w15.heap.size = w.heap.size from by have := s1.out; have := s2.out; have := s3.out; have := g_r0.out; have := gh_r0.out; have := s4.out; have := s5.out; have := s6.out; have := s7.out; have := s8.out; have := s9.out; have := s10.out; have := s11.out; have := s12.out; have := s13.out; have := s14.out; have := s15.out; have := l_a0; omega); have en_15_a0 := (show ¬ w.heap.size = w15.heap.size from by have := s1.out; have := s2.out; have := s3.out; have := g_r0.out; have := gh_r0.out; have := s4.out; have := s5.out; have := s6.out; have := s7.out; have := s8.out; have := s9.out; have := s10.out; have := s11.out; have := s12.out; have := s13.out; have := s14.out; have := s15.out; have := l_a0; omega); have ne_15_a1 := (show ¬ w15.heap.size = w.heap.size + 1 from by have := s1.out; have := s2.out; have := s3.out; have := g_r0.out; have := gh_r0.out; have := s4.out; have := s5.out; have := s6.out; have := s7.out; have := s8.out; have := s9.out; have := s10.out; have := s11.out; have := s12.out; have := s13.out; have := s14.out; have := s15.out; have := l_a1; omega); have en_15_a1 := (show ¬ w.heap.size + 1 = w15.heap.size from by have := s1.out; have := s2.out; have := s3.out; have := g_r0.out; have := gh_r0.out; have := s4.out; have := s5.out; have := s6.out; have := s7.out; have := s8.out; have := s9.out; have := s10.out; have := s11.out; have := s12.out; have := s13.out; have := s14.out; have := s15.out; have := l_a1; omega)) | (go_at_call 40; refine (toAct_any _ x1 _ ⟨_, rfl, HA1.out.below (bl2 HB.out (by first | exact Below.refl _ _ | exact (Below.refl _ _).drew | exact (Below.refl _ _).al _ | exact ((Below.refl _ _).al _).al _ | exact ((Below.refl _ _).al _).drew | exact ((Below.refl _ _).drew).al _ | exact (((Below.refl _ _).al _).al _).drew))⟩ HS1.out).mono ?_; rintro e w16 ⟨v_q1, rfl, ⟨c_q1, rfl, o_q1⟩, hb16⟩; have hc16 : Below w15.heap.size w15 w16 := (by first | exact hb16 | exact cr_d hb16 | exact cr_1 hb16 | exact cr_2 hb16 | exact cr_1d hb16 | exact cr_2d hb16 | exact cr_d1 hb16); have s16 := Lib.hid (show w15.heap.size + 0 ≤ w16.heap.size from by exact hc16.size); (try (have ZP := Lib.hid (lt_of BZ.out); clear z_0 z_1 z_l zf0 zf1; replace BZ := Lib.hid (blk_in BZ.out hc16); obtain ⟨z_0, z_1⟩ := cells2 BZ.out; have z_l := lt_of BZ.out; have zf0 := fr_of BZ.out 0; have zf1 := fr_of BZ.out 1)); (try (have BZ := Lib.hid (blk_in (by exact hp1 w15 (.cells #[.int .i64 0, .slice none 0 0] 43)) hb16 : w16.heap[w15.heap.size]? = some (.cells #[.int .i64 0, .slice none 0 0] 43)); have ZS := Lib.hid HX.out.size; obtain ⟨z_0, z_1⟩ := cells2 BZ.out; have z_l := lt_of BZ.out; have zf0 := fr_of BZ.out 0; have zf1 := fr_of BZ.out 1)); clear c_a0_0 c_a0_1 c_a0_2 l_a0; clear c_a1_0 c_a1_1 l_a1; clear c_r0_0 c_r0_1 l_r0; clear c_y0_0 c_y0_1 c_y0_2 l_y0; clear c_y1_0 c_y1_1 l_y1; clear c_g0_0 c_g0_1 l_g0; replace B_a0 := Lib.hid (blk_in B_a0.out hc16); replace B_a1 := Lib.hid (blk_in B_a1.out hc16); replace B_r0 := Lib.hid (blk_in B_r0.out hc16); replace B_y0 := Lib.hid (blk_in B_y0.out hc16); replace B_y1 := Lib.hid (blk_in B_y1.out hc16); replace B_g0 := Lib.hid (blk_in B_g0.out hc16); replace o_r0 := Lib.hid (o_r0.out.below hc16); replace o_y0 := Lib.hid (o_y0.out.below hc16); replace o_y1 := Lib.hid (o_y1.out.below hc16); replace o_g0 := Lib.hid (o_g0.out.below hc16); replace o_q0 := Lib.hid (o_q0.out.below hc16); obtain ⟨a_q1, k_q1, rfl⟩ := o_q1.shape; have u_q1 := Lib.hid (show ∀ k, (Value.slice a_q1 (x1).regs.length k_q1).ownBlock = some k → k < w16.heap.size from fun k e => (o_q1.lt k e).2); replace o_q1 := Lib.hid (Own.mono (lo' := w15.heap.size + 0) o_q1 (by first | exact Nat.le_refl _ | simp)); replace HB := Lib.hid (HB.out.trans (hc16.mono HB.out.size)); replace HX := Lib.hid (HX.out.trans (hc16.mono HX.out.size)); clear hc16 hb16; obtain ⟨c_a0_0, c_a0_1, c_a0_2⟩ := cells3 B_a0.out; have l_a0 := lt_of B_a0.out; obtain ⟨c_a1_0, c_a1_1⟩ := cells2 B_a1.out; have l_a1 := lt_of B_a1.out; obtain ⟨c_r0_0, c_r0_1⟩ := cells2 B_r0.out; have l_r0 := lt_of B_r0.out; obtain ⟨c_y0_0, c_y0_1, c_y0_2⟩ := cells3 B_y0.out; have l_y0 := lt_of B_y0.out; obtain ⟨c_y1_0, c_y1_1⟩ := cells2 B_y1.out; have l_y1 := lt_of B_y1.out; obtain ⟨c_g0_0, c_g0_1⟩ := cells2 B_g0.out; have l_g0 := lt_of B_g0.out; have ne_16_a0 := (show ¬ w16.heap.size = w.heap.size from by have := s1.out; have := s2.out; have := s3.out; have := g_r0.out; have := gh_r0.out; have := s4.out; have := s5.out; have := s6.out; have := s7.out; have := s8.out; have := s9.out; have := s10.out; have := s11.out; have := s12.out; have := s13.out; have := s14.out; have := s15.out; have := s16.out; have := l_a0; omega); have en_16_a0 := (show ¬ w.heap.size = w16.heap.size from by have := s1.out; have := s2.out; have := s3.out; have := g_r0.out; have := gh_r0.out; have := s4.out; have := s5.out; have := s6.out; have := s7.out; have := s8.out; have := s9.out; have := s10.out; have := s11.out; have := s12.out; have := s13.out; have := s14.out; have := s15.out; have := s16.out; have := l_a0; omega); have ne_16_a1 := (show ¬ w16.heap.size = w.heap.size + 1 from by have := s1.out; have := s2.out; have := s3.out; have := g_r0.out; have := gh_r0.out; have := s4.out; have := s5.out; have := s6.out; have := s7.out; have := s8.out; have := s9.out; have := s10.out; have := s11.out; have := s12.out; have := s13.out; have := s14.out; have := s15.out; have := s16.out; have := l_a1; omega); have en_16_a1 := (show ¬ w.heap.size + 1 = w16.heap.size from by have := s1.out; have := s2.out; have := s3.out; have := g_r0.out; have := gh_r0.out; have := s4.out; have := s5.out; have := s6.out; have := s7.out; have := s8.out; have := s9.out; have := s10.out; have := s11.out; have := s12.out; have := s13.out; have := s14.out; have := s15.out; have := s16.out; have := l_a1; omega)) | (go_at_call 28; refine (istepR_any _ _ x0 x1 x2 _ ⟨_, rfl, (o_q0.out.below (by first | exact Below.refl _ _ | exact (Below.refl _ _).drew | exact (Below.refl _ _).al _ | exact ((Below.refl _ _).al _).al _ | exact ((Below.refl _ _).al _).drew | exact ((Below.refl _ _).drew).al _ | exact (((Below.refl _ _).al _).al _).drew)).sl⟩ ⟨_, rfl, (o_q1.out.below (by first | exact Below.refl _ _ | exact (Below.refl _ _).drew | exact (Below.refl _ _).al _ | exact ((Below.refl _ _).al _).al _ | exact ((Below.refl _ _).al _).drew | exact ((Below.refl _ _).drew).al _ | exact (((Below.refl _ _).al _).al _).drew)).sl⟩ h2).mono ?_; rintro e w17 ⟨v_k0, rfl, ⟨c_k0, rfl, o_k0⟩, hb17⟩; have hc17 : Below w16.heap.size w16 w17 := (by first | exact hb17 | exact cr_d hb17 | exact cr_1 hb17 | exact cr_2 hb17 | exact cr_1d hb17 | exact cr_2d hb17 | exact cr_d1 hb17); have s17 := Lib.hid (show w16.heap.size + 0 ≤ w17.heap.size from by exact hc17.size); (try (have ZP := Lib.hid (lt_of BZ.out); clear z_0 z_1 z_l zf0 zf1; replace BZ := Lib.hid (blk_in BZ.out hc17); obtain ⟨z_0, z_1⟩ := cells2 BZ.out; have z_l := lt_of BZ.out; have zf0 := fr_of BZ.out 0; have zf1 := fr_of BZ.out 1)); (try (have BZ := Lib.hid (blk_in (by exact hp1 w16 (.cells #[.int .i64 0, .slice none 0 0] 43)) hb17 : w17.heap[w16.heap.size]? = some (.cells #[.int .i64 0, .slice none 0 0] 43)); have ZS := Lib.hid HX.out.size; obtain ⟨z_0, z_1⟩ := cells2 BZ.out; have z_l := lt_of BZ.out; have zf0 := fr_of BZ.out 0; have zf1 := fr_of BZ.out 1)); (try (have OZ := Lib.hid (Own.mono (lo' := w16.heap.size + 1) o_k0 (by simp)))); clear c_a0_0 c_a0_1 c_a0_2 l_a0; clear c_a1_0 c_a1_1 l_a1; clear c_r0_0 c_r0_1 l_r0; clear c_y0_0 c_y0_1 c_y0_2 l_y0; clear c_y1_0 c_y1_1 l_y1; clear c_g0_0 c_g0_1 l_g0; replace B_a0 := Lib.hid (blk_in B_a0.out hc17); replace B_a1 := Lib.hid (blk_in B_a1.out hc17); replace B_r0 := Lib.hid (blk_in B_r0.out hc17); replace B_y0 := Lib.hid (blk_in B_y0.out hc17); replace B_y1 := Lib.hid (blk_in B_y1.out hc17); replace B_g0 := Lib.hid (blk_in B_g0.out hc17); replace o_r0 := Lib.hid (o_r0.out.below hc17); replace o_y0 := Lib.hid (o_y0.out.below hc17); replace o_y1 := Lib.hid (o_y1.out.below hc17); replace o_g0 := Lib.hid (o_g0.out.below hc17); replace o_q0 := Lib.hid (o_q0.out.below hc17); replace o_q1 := Lib.hid (o_q1.out.below hc17); obtain ⟨a_k0, k_k0, rfl⟩ := o_k0.shape; have u_k0 := Lib.hid (show ∀ k, (Value.slice a_k0 ((stepActorR0 x0 x1 x2)).regs.length k_k0).ownBlock = some k → k < w17.heap.size from fun k e => (o_k0.lt k e).2); replace o_k0 := Lib.hid (Own.mono (lo' := w16.heap.size + 0) o_k0 (by first | exact Nat.le_refl _ | simp)); replace HB := Lib.hid (HB.out.trans (hc17.mono HB.out.size)); replace HX := Lib.hid (HX.out.trans (hc17.mono HX.out.size)); clear hc17 hb17; obtain ⟨c_a0_0, c_a0_1, c_a0_2⟩ := cells3 B_a0.out; have l_a0 := lt_of B_a0.out; obtain ⟨c_a1_0, c_a1_1⟩ := cells2 B_a1.out; have l_a1 := lt_of B_a1.out; obtain ⟨c_r0_0, c_r0_1⟩ := cells2 B_r0.out; have l_r0 := lt_of B_r0.out; obtain ⟨c_y0_0, c_y0_1, c_y0_2⟩ := cells3 B_y0.out; have l_y0 := lt_of B_y0.out; obtain ⟨c_y1_0, c_y1_1⟩ := cells2 B_y1.out; have l_y1 := lt_of B_y1.out; obtain ⟨c_g0_0, c_g0_1⟩ := cells2 B_g0.out; have l_g0 := lt_of B_g0.out; have ne_17_a0 := (show ¬ w17.heap.size = w.heap.size from by have := s1.out; have := s2.out; have := s3.out; have := g_r0.out; have := gh_r0.out; have := s4.out; have := s5.out; have := s6.out; have := s7.out; have := s8.out; have := s9.out; have := s10.out; have := s11.out; have := s12.out; have := s13.out; have := s14.out; have := s15.out; have := s16.out; have := s17.out; have := l_a0; omega); have en_17_a0 := (show ¬ w.heap.size = w17.heap.size from by have := s1.out; have := s2.out; have := s3.out; have := g_r0.out; have := gh_r0.out; have := s4.out; have := s5.out; have := s6.out; have := s7.out; have := s8.out; have := s9.out; have := s10.out; have := s11.out; have := s12.out; have := s13.out; have := s14.out; have := s15.out; have := s16.out; have := s17.out; have := l_a0; omega); have ne_17_a1 := (show ¬ w17.heap.size = w.heap.size + 1 from by have := s1.out; have := s2.out; have := s3.out; have := g_r0.out; have := gh_r0.out; have := s4.out; have := s5.out; have := s6.out; have := s7.out; have := s8.out; have := s9.out; have := s10.out; have := s11.out; have := s12.out; have := s13.out; have := s14.out; have := s15.out; have := s16.out; have := s17.out; have := l_a1; omega); have en_17_a1 := (show ¬ w.heap.size + 1 = w17.heap.size from by have := s1.out; have := s2.out; have := s3.out; have := g_r0.out; have := gh_r0.out; have := s4.out; have := s5.out; have := s6.out; have := s7.out; have := s8.out; have := s9.out; have := s10.out; have := s11.out; have := s12.out; have := s13.out; have := s14.out; have := s15.out; have := s16.out; have := s17.out; have := l_a1; omega)))
    all_goals
      go_wp2_with fail
      go_meet
      case rel =>
        refine ⟨a_k0, k_k0, _, rfl, ?_, ?_, ?_, ?_, rfl, rfl, ?_⟩
        · first | with_reducible exact Lib.hid (hp1 _ _) | with_reducible exact Lib.hid (setN2 (hp1 _ _)) | with_reducible exact Lib.hid (setN2 BZ.out)
        · first | with_reducible exact Lib.hid ZS.out | with_reducible exact Lib.hid HX.out.size
        · refine Lib.hid ?_
          first | with_reducible refine Own.setN ?_ (Own.setN ?_ ?_) | with_reducible refine Own.alN (Own.setN ?_ (Own.setN ?_ ?_)) | with_reducible refine Own.alN ?_
          all_goals first
          | exact Own.mono o_k0.out (by have := HX.out.size; have := s15.out; have := s16.out; have := s17.out; omega)
          | exact Own.mono (Own.alN o_k0.out) (by have := HX.out.size; have := s15.out; have := s16.out; have := s17.out; omega)
          | (intro k e q; dsimp only at q; have h1 := (o_k0.out.lt k e).1; have h2 := u_k0.out k e; have := HX.out.size; have := s15.out; have := s16.out; have := s17.out; omega)
          | (intro k e q; dsimp only at q; have h1 := (o_k0.out.lt k e).1; have h3 := ZP.out; have := s15.out; have := s16.out; have := s17.out; omega)
          | (intro k e q; dsimp only at q; have h1 := (OZ.out.lt k e).1; have h2 := u_k0.out k e; have := HX.out.size; have := s15.out; have := s16.out; have := s17.out; omega)
        · first | exact Lib.hid (fun k e => by have := u_k0.out k e; simp; omega) | exact Lib.hid (fun k e => by have := u_k0.out k e; simpa using this)
        · first | with_reducible exact Lib.hid (HX.out.al _) | with_reducible exact Lib.hid (((HX.out.al _).setCell HX.out.size _).setCell HX.out.size _) | with_reducible exact Lib.hid ((HX.out.setCell ZS.out _).setCell ZS.out _)
  rename World => w15
  obtain ⟨a_k0, k_k0, b_k0, rfl, N_k0, g_k0, o_k0, u_k0, rfl, rfl, hb15⟩ := hcut
  replace hb15 := hb15.out
  have hc15 : Below w14.heap.size w14 w15 := (by first | exact hb15 | exact cr_d hb15 | exact cr_1 hb15 | exact cr_2 hb15 | exact cr_1d hb15 | exact cr_2d hb15 | exact cr_d1 hb15)
  have s15 := Lib.hid (show w14.heap.size + 0 ≤ w15.heap.size from by exact hc15.size)
  clear c_a0_0 c_a0_1 c_a0_2 l_a0
  clear c_a1_0 c_a1_1 l_a1
  clear c_r0_0 c_r0_1 l_r0
  clear c_y0_0 c_y0_1 c_y0_2 l_y0
  clear c_y1_0 c_y1_1 l_y1
  clear c_g0_0 c_g0_1 l_g0
  replace B_a0 := Lib.hid (blk_in B_a0.out hc15)
  replace B_a1 := Lib.hid (blk_in B_a1.out hc15)
  replace B_r0 := Lib.hid (blk_in B_r0.out hc15)
  replace B_y0 := Lib.hid (blk_in B_y0.out hc15)
  replace B_y1 := Lib.hid (blk_in B_y1.out hc15)
  replace B_g0 := Lib.hid (blk_in B_g0.out hc15)
  replace o_r0 := Lib.hid (o_r0.out.below hc15)
  replace o_y0 := Lib.hid (o_y0.out.below hc15)
  replace o_y1 := Lib.hid (o_y1.out.below hc15)
  replace o_g0 := Lib.hid (o_g0.out.below hc15)
  replace HB := Lib.hid (HB.out.trans (hc15.mono HB.out.size))
  clear hc15 hb15
  obtain ⟨c_a0_0, c_a0_1, c_a0_2⟩ := cells3 B_a0.out
  have l_a0 := lt_of B_a0.out
  obtain ⟨c_a1_0, c_a1_1⟩ := cells2 B_a1.out
  have l_a1 := lt_of B_a1.out
  obtain ⟨c_r0_0, c_r0_1⟩ := cells2 B_r0.out
  have l_r0 := lt_of B_r0.out
  obtain ⟨c_y0_0, c_y0_1, c_y0_2⟩ := cells3 B_y0.out
  have l_y0 := lt_of B_y0.out
  obtain ⟨c_y1_0, c_y1_1⟩ := cells2 B_y1.out
  have l_y1 := lt_of B_y1.out
  obtain ⟨c_g0_0, c_g0_1⟩ := cells2 B_g0.out
  have l_g0 := lt_of B_g0.out
  have B_k0 := N_k0
  clear N_k0
  have gh_k0 := Lib.hid (lt_of B_k0.out)
  obtain ⟨c_k0_0, c_k0_1⟩ := cells2 B_k0.out
  have l_k0 := lt_of B_k0.out
  go_wp2_with fail
  refine (eqAct_ok _ _ (stepActorR0 x0 x1 x2) _ ⟨_, rfl, (o_k0.out.below (by first | exact Below.refl _ _ | exact (Below.refl _ _).drew | exact (Below.refl _ _).al _ | exact ((Below.refl _ _).al _).al _ | exact ((Below.refl _ _).al _).drew | exact ((Below.refl _ _).drew).al _ | exact (((Below.refl _ _).al _).al _).drew)).sl⟩ ⟨_, rfl, (o_r0.out.below (by first | exact Below.refl _ _ | exact (Below.refl _ _).drew | exact (Below.refl _ _).al _ | exact ((Below.refl _ _).al _).al _ | exact ((Below.refl _ _).al _).drew | exact ((Below.refl _ _).drew).al _ | exact (((Below.refl _ _).al _).al _).drew)).sl⟩).mono ?_
  rintro e w16 ⟨rfl, hb16⟩
  have hc16 : Below w15.heap.size w15 w16 := (by first | exact hb16 | exact cr_d hb16 | exact cr_1 hb16 | exact cr_2 hb16 | exact cr_1d hb16 | exact cr_2d hb16 | exact cr_d1 hb16)
  have s16 := Lib.hid (show w15.heap.size + 0 ≤ w16.heap.size from by exact hc16.size)
  clear c_a0_0 c_a0_1 c_a0_2 l_a0
  clear c_a1_0 c_a1_1 l_a1
  clear c_r0_0 c_r0_1 l_r0
  clear c_y0_0 c_y0_1 c_y0_2 l_y0
  clear c_y1_0 c_y1_1 l_y1
  clear c_g0_0 c_g0_1 l_g0
  clear c_k0_0 c_k0_1 l_k0
  replace B_a0 := Lib.hid (blk_in B_a0.out hc16)
  replace B_a1 := Lib.hid (blk_in B_a1.out hc16)
  replace B_r0 := Lib.hid (blk_in B_r0.out hc16)
  replace B_y0 := Lib.hid (blk_in B_y0.out hc16)
  replace B_y1 := Lib.hid (blk_in B_y1.out hc16)
  replace B_g0 := Lib.hid (blk_in B_g0.out hc16)
  replace B_k0 := Lib.hid (blk_in B_k0.out hc16)
  replace o_r0 := Lib.hid (o_r0.out.below hc16)
  replace o_y0 := Lib.hid (o_y0.out.below hc16)
  replace o_y1 := Lib.hid (o_y1.out.below hc16)
  replace o_g0 := Lib.hid (o_g0.out.below hc16)
  replace o_k0 := Lib.hid (o_k0.out.below hc16)
  replace HB := Lib.hid (HB.out.trans (hc16.mono HB.out.size))
  clear hc16 hb16
  obtain ⟨c_a0_0, c_a0_1, c_a0_2⟩ := cells3 B_a0.out
  have l_a0 := lt_of B_a0.out
  obtain ⟨c_a1_0, c_a1_1⟩ := cells2 B_a1.out
  have l_a1 := lt_of B_a1.out
  obtain ⟨c_r0_0, c_r0_1⟩ := cells2 B_r0.out
  have l_r0 := lt_of B_r0.out
  obtain ⟨c_y0_0, c_y0_1, c_y0_2⟩ := cells3 B_y0.out
  have l_y0 := lt_of B_y0.out
  obtain ⟨c_y1_0, c_y1_1⟩ := cells2 B_y1.out
  have l_y1 := lt_of B_y1.out
  obtain ⟨c_g0_0, c_g0_1⟩ := cells2 B_g0.out
  have l_g0 := lt_of B_g0.out
  obtain ⟨c_k0_0, c_k0_1⟩ := cells2 B_k0.out
  have l_k0 := lt_of B_k0.out
  have dq0_16 : decide (1 + ((((stepActorR0 x0 x1 x2)).regs.length : Nat) : Int) < 0) = false := decide_eq_false (by omega)
  go_wp2_with fail
  refine (heldAct_any _ (stepActorR0 x0 x1 x2).pc (1) (((stepActorR0 x0 x1 x2)).regs.length) _ ⟨_, rfl, (o_g0.out.below (by first | exact Below.refl _ _ | exact (Below.refl _ _).drew | exact (Below.refl _ _).al _ | exact ((Below.refl _ _).al _).al _ | exact ((Below.refl _ _).al _).drew | exact ((Below.refl _ _).drew).al _ | exact (((Below.refl _ _).al _).al _).drew)).sl⟩ (by omega) (by have := stepActor_len0 x0 x1 x2;  omega) (by have := stepActor_len0 x0 x1 x2;  omega)).mono ?_
  rintro e w17 ⟨rfl, hb17⟩
  have hc17 : Below w16.heap.size w16 w17 := (by first | exact hb17 | exact cr_d hb17 | exact cr_1 hb17 | exact cr_2 hb17 | exact cr_1d hb17 | exact cr_2d hb17 | exact cr_d1 hb17)
  have s17 := Lib.hid (show w16.heap.size + 0 ≤ w17.heap.size from by exact hc17.size)
  clear c_a0_0 c_a0_1 c_a0_2 l_a0
  clear c_a1_0 c_a1_1 l_a1
  clear c_r0_0 c_r0_1 l_r0
  clear c_y0_0 c_y0_1 c_y0_2 l_y0
  clear c_y1_0 c_y1_1 l_y1
  clear c_g0_0 c_g0_1 l_g0
  clear c_k0_0 c_k0_1 l_k0
  replace B_a0 := Lib.hid (blk_in B_a0.out hc17)
  replace B_a1 := Lib.hid (blk_in B_a1.out hc17)
  replace B_r0 := Lib.hid (blk_in B_r0.out hc17)
  replace B_y0 := Lib.hid (blk_in B_y0.out hc17)
  replace B_y1 := Lib.hid (blk_in B_y1.out hc17)
  replace B_g0 := Lib.hid (blk_in B_g0.out hc17)
  replace B_k0 := Lib.hid (blk_in B_k0.out hc17)
  replace o_r0 := Lib.hid (o_r0.out.below hc17)
  replace o_y0 := Lib.hid (o_y0.out.below hc17)
  replace o_y1 := Lib.hid (o_y1.out.below hc17)
  replace o_g0 := Lib.hid (o_g0.out.below hc17)
  replace o_k0 := Lib.hid (o_k0.out.below hc17)
  replace HB := Lib.hid (HB.out.trans (hc17.mono HB.out.size))
  clear hc17 hb17
  obtain ⟨c_a0_0, c_a0_1, c_a0_2⟩ := cells3 B_a0.out
  have l_a0 := lt_of B_a0.out
  obtain ⟨c_a1_0, c_a1_1⟩ := cells2 B_a1.out
  have l_a1 := lt_of B_a1.out
  obtain ⟨c_r0_0, c_r0_1⟩ := cells2 B_r0.out
  have l_r0 := lt_of B_r0.out
  obtain ⟨c_y0_0, c_y0_1, c_y0_2⟩ := cells3 B_y0.out
  have l_y0 := lt_of B_y0.out
  obtain ⟨c_y1_0, c_y1_1⟩ := cells2 B_y1.out
  have l_y1 := lt_of B_y1.out
  obtain ⟨c_g0_0, c_g0_1⟩ := cells2 B_g0.out
  have l_g0 := lt_of B_g0.out
  obtain ⟨c_k0_0, c_k0_1⟩ := cells2 B_k0.out
  have l_k0 := lt_of B_k0.out
  go_wp2_with fail
  go_ret
  exact ⟨rfl, HB.out⟩

end Go.Proofs.Ythniafpkkgcjnaa
