/-
  The walk of the law FnExactUniformCapacities: it answers true and changes nothing that was there.
-/
import Derived.Test.YtmfagmfclehdbaaUni
import Derived.Test.YtmfagmfclehdbaaLawKit
import Derived.Deep.Cut
import Derived.Deep.RegionHeld3
namespace Go.Proofs.Ytmfagmfclehdbaa
open Go.RowKit

set_option maxRecDepth 100000 in
set_option maxHeartbeats 40000000 in
theorem fnExactUniformCapacities_walk (v0 : Value) (x0 : Net) (x1 : Int) (w : World) (h0 : NetV w v0 x0) (h1 : (Lit.int .i64 x1).wf = true) :
    Calls Try.prog 5 #[v0, .int .i64 x1] w fun e w' => e = .returned (.bool true) ∧ Below w.heap.size w w' := by
  have HA0 := Lib.hid h0
  obtain ⟨cp, cl, rfl, hp, hl⟩ := h0
  obtain ⟨pa, pcap, rfl⟩ := hp.shape
  obtain ⟨la, lcap, rfl⟩ := hl.shape
  clear hp hl
  have BD := Lib.hid (uniformCapacities_bd x0 x1)
  have HB := Lib.hid (Below.refl w.heap.size w)
  go_enter Try.func5, Try.ntmps5
  have HL0 := Lib.hid (show (0 : Int) ≤ 1048576 ∧ (1048576 : Int) ≤ 1048576 by omega)
  go_wp2_with fail
  generalize hw1 : w.alloc (.cells #[.slice pa (x0).progs.length pcap, .slice la (x0).links.length lcap] 25) = w1
  have hb1 : Below w.heap.size w w1 := by rw [← hw1]; exact (Below.refl _ _).al _
  have hn1 : w1.heap[w.heap.size]? = some (.cells #[.slice pa (x0).progs.length pcap, .slice la (x0).links.length lcap] 25) := by rw [← hw1]; exact hp1 _ _
  clear hw1
  have s1 := Lib.hid (show w.heap.size ≤ w1.heap.size from hb1.size)
  replace HB := Lib.hid (HB.out.trans (hb1.mono HB.out.size))
  have B_a0 := Lib.hid hn1
  have t1 := Lib.hid (lt_of hn1)
  clear hn1 hb1
  obtain ⟨c_a0_0, c_a0_1⟩ := cells2 B_a0.out
  have l_a0 := lt_of B_a0.out
  go_at_call 11
  by_cases z0 : ((szN x0 : Nat) : Int) ≤ 1048576
  case neg =>
    refine (szNet_any _ x0 (1048576) _ (HA0.out.below HB.out) HL0.out).mono ?_
    rintro e wz ⟨rfl, hb⟩
    rw [if_neg z0]
    go_wp2_with fail
    go_ret
    exact ⟨rfl, HB.out.trans (hb.mono HB.out.size)⟩
  refine (szNet_any _ x0 (1048576) _ (HA0.out.below HB.out) HL0.out).mono ?_
  rintro e w2 ⟨rfl, hb2⟩
  rw [if_pos z0]
  obtain ⟨l1, hl⟩ : ∃ l : Int, l = 1048576 - ((szN x0 : Nat) : Int) := ⟨_, rfl⟩
  rw [← hl]
  have HL1 := Lib.hid (show 0 ≤ l1 ∧ l1 ≤ 1048576 by have := HL0.out; omega)
  have HS0 := Lib.hid (show szN x0 ≤ 1048576 by have := HL0.out; omega)
  have d1 : decide (l1 < 0) = false := decide_eq_false (by have := HL1.out; omega)
  clear hl z0
  have s2 := Lib.hid (show w1.heap.size ≤ w2.heap.size from hb2.size)
  clear c_a0_0 c_a0_1 l_a0
  replace B_a0 := Lib.hid (blk_in B_a0.out hb2)
  replace HB := Lib.hid (HB.out.trans (hb2.mono HB.out.size))
  clear hb2
  obtain ⟨c_a0_0, c_a0_1⟩ := cells2 B_a0.out
  have l_a0 := lt_of B_a0.out
  go_wp2_with fail
  go_at_call 13
  refine (toNet_h _ x0 _ (HA0.out.below HB.out) HS0.out).mono ?_
  rintro e w3 ⟨v_t0, rfl, o_t0, hb3⟩
  have s3 := Lib.hid (show w2.heap.size ≤ w3.heap.size from hb3.size)
  clear c_a0_0 c_a0_1 l_a0
  replace B_a0 := Lib.hid (blk_in B_a0.out hb3)
  replace HB := Lib.hid (HB.out.trans (hb3.mono HB.out.size))
  obtain ⟨a_t0, k_t0, rfl⟩ := o_t0.shape
  replace o_t0 := Lib.hid o_t0
  clear hb3
  obtain ⟨c_a0_0, c_a0_1⟩ := cells2 B_a0.out
  have l_a0 := lt_of B_a0.out
  go_wp2_with fail
  go_at_call 24
  refine (suni_w _ x0 x1 _ o_t0.out.v h1).mono ?_
  rintro e w4 ⟨v_r0, rfl, o_r, hb4⟩
  have s4 := Lib.hid (show w3.heap.size ≤ w4.heap.size from hb4.size)
  clear c_a0_0 c_a0_1 l_a0
  replace B_a0 := Lib.hid (blk_in B_a0.out hb4)
  replace o_t0 := Lib.hid (o_t0.out.below hb4)
  replace HB := Lib.hid (HB.out.trans (hb4.mono HB.out.size))
  obtain ⟨a_r0, k_r0, rfl⟩ := o_r.shape
  replace o_r := Lib.hid o_r
  clear hb4
  obtain ⟨c_a0_0, c_a0_1⟩ := cells2 B_a0.out
  have l_a0 := lt_of B_a0.out
  clear o_t0
  go_wp2_with fail
  go_at_call 13
  refine (toNet_h _ x0 _ (HA0.out.below HB.out) HS0.out).mono ?_
  rintro e w5 ⟨v_y0, rfl, o_y0, hb5⟩
  have s5 := Lib.hid (show w4.heap.size ≤ w5.heap.size from hb5.size)
  clear c_a0_0 c_a0_1 l_a0
  replace B_a0 := Lib.hid (blk_in B_a0.out hb5)
  replace o_r := Lib.hid (o_r.out.below hb5)
  replace HB := Lib.hid (HB.out.trans (hb5.mono HB.out.size))
  obtain ⟨a_y0, k_y0, rfl⟩ := o_y0.shape
  replace o_y0 := Lib.hid o_y0
  clear hb5
  obtain ⟨c_a0_0, c_a0_1⟩ := cells2 B_a0.out
  have l_a0 := lt_of B_a0.out
  go_wp2_with fail
  generalize hw6 : w5.alloc (.cells #[.slice a_y0 (x0).progs.length (x0).progs.length, .slice k_y0 (x0).links.length (x0).links.length] 35) = w6
  have hb6 : Below w5.heap.size w5 w6 := by rw [← hw6]; exact (Below.refl _ _).al _
  have hn6 : w6.heap[w5.heap.size]? = some (.cells #[.slice a_y0 (x0).progs.length (x0).progs.length, .slice k_y0 (x0).links.length (x0).links.length] 35) := by rw [← hw6]; exact hp1 _ _
  clear hw6
  have s6 := Lib.hid (show w5.heap.size ≤ w6.heap.size from hb6.size)
  clear c_a0_0 c_a0_1 l_a0
  replace B_a0 := Lib.hid (blk_in B_a0.out hb6)
  replace o_r := Lib.hid (o_r.out.below hb6)
  replace o_y0 := Lib.hid (o_y0.out.below hb6)
  replace HB := Lib.hid (HB.out.trans (hb6.mono HB.out.size))
  have B_y0 := Lib.hid hn6
  have t6 := Lib.hid (lt_of hn6)
  clear hn6 hb6
  obtain ⟨c_a0_0, c_a0_1⟩ := cells2 B_a0.out
  have l_a0 := lt_of B_a0.out
  obtain ⟨c_y0_0, c_y0_1⟩ := cells2 B_y0.out
  have l_y0 := lt_of B_y0.out
  go_wp2_with fail
  go_at_call 25
  refine (iuni_w _ x0 x1 _ o_y0.out.v h1).mono ?_
  rintro e w7 ⟨v_g0, rfl, o_g, hb7⟩
  have s7 := Lib.hid (show w6.heap.size ≤ w7.heap.size from hb7.size)
  clear c_a0_0 c_a0_1 l_a0
  clear c_y0_0 c_y0_1 l_y0
  replace B_a0 := Lib.hid (blk_in B_a0.out hb7)
  replace B_y0 := Lib.hid (blk_in B_y0.out hb7)
  replace o_r := Lib.hid (o_r.out.below hb7)
  replace o_y0 := Lib.hid (o_y0.out.below hb7)
  replace HB := Lib.hid (HB.out.trans (hb7.mono HB.out.size))
  obtain ⟨a_g0, k_g0, rfl⟩ := o_g.shape
  replace o_g := Lib.hid o_g
  clear hb7
  obtain ⟨c_a0_0, c_a0_1⟩ := cells2 B_a0.out
  have l_a0 := lt_of B_a0.out
  obtain ⟨c_y0_0, c_y0_1⟩ := cells2 B_y0.out
  have l_y0 := lt_of B_y0.out
  go_wp2_with fail
  go_at_call 23
  refine (eqS_ok _ _ (uniformCapacitiesR0 x0 x1) _ o_g.out.v o_r.out.v).mono ?_
  rintro e w8 ⟨rfl, hb8⟩
  have s8 := Lib.hid (show w7.heap.size ≤ w8.heap.size from hb8.size)
  clear c_a0_0 c_a0_1 l_a0
  clear c_y0_0 c_y0_1 l_y0
  replace B_a0 := Lib.hid (blk_in B_a0.out hb8)
  replace B_y0 := Lib.hid (blk_in B_y0.out hb8)
  replace o_r := Lib.hid (o_r.out.below hb8)
  replace o_y0 := Lib.hid (o_y0.out.below hb8)
  replace o_g := Lib.hid (o_g.out.below hb8)
  replace HB := Lib.hid (HB.out.trans (hb8.mono HB.out.size))
  clear hb8
  obtain ⟨c_a0_0, c_a0_1⟩ := cells2 B_a0.out
  have l_a0 := lt_of B_a0.out
  obtain ⟨c_y0_0, c_y0_1⟩ := cells2 B_y0.out
  have l_y0 := lt_of B_y0.out
  go_upto_region 10 with fail
  go_cut [35] from 74 (fun s wr => s = .bool false ∧ Hid (Below w8.heap.size w8 wr))
  case first =>
    go_region_held3 (fun w' => w'.cell? ⟨w.heap.size, 0, none⟩ = some (.slice pa (x0).progs.length pcap) ∧ w'.cell? ⟨w.heap.size, 1, none⟩ = some (.slice la (x0).links.length lcap) ∧ w'.cell? ⟨w5.heap.size, 0, none⟩ = some (.slice a_y0 (x0).progs.length (x0).progs.length) ∧ w'.cell? ⟨w5.heap.size, 1, none⟩ = some (.slice k_y0 (x0).links.length (x0).links.length)) (go_keep) (first | (go_at_call 13; refine (toNet_h _ x0 _ (HA0.out.below (HB.out.trans ((by first | with_reducible exact Below.refl _ _ | with_reducible exact (Below.refl _ _).drew : Below w8.heap.size w8 _).mono HB.out.size))) HS0.out).mono ?_; rintro e W7 ⟨v7, rfl, o7, hb7⟩; have hc7 := (show Below w8.heap.size w8 W7 by first | with_reducible exact hb7 | with_reducible exact cr_d hb7); have HC7 := Lib.hid hc7; have q_a0 := blk_in B_a0.out hc7; have q_y0 := blk_in B_y0.out hc7; obtain ⟨e7_a0_0, e7_a0_1⟩ := cells2 q_a0; have l7_a0 := lt_of q_a0; have Q7_a0 := Lib.hid q_a0; clear q_a0; obtain ⟨e7_y0_0, e7_y0_1⟩ := cells2 q_y0; have l7_y0 := lt_of q_y0; have Q7_y0 := Lib.hid q_y0; clear q_y0; have V7 := Lib.hid o7.v; have V6 := Lib.hid ((o_y0.out.below hc7).v); clear o7 hb7 hc7) | (go_at_call 16; refine (eqNet_ok _ _ x0 _ V6.out V7.out).mono ?_; rintro e W8 ⟨rfl, hb8⟩; have HC8 := Lib.hid (HC7.out.trans (hb8.mono HC7.out.size)); have q_a0 := blk_in Q7_a0.out hb8; have q_y0 := blk_in Q7_y0.out hb8; obtain ⟨e8_a0_0, e8_a0_1⟩ := cells2 q_a0; have l8_a0 := lt_of q_a0; have Q8_a0 := Lib.hid q_a0; clear q_a0; obtain ⟨e8_y0_0, e8_y0_1⟩ := cells2 q_y0; have l8_y0 := lt_of q_y0; have Q8_y0 := Lib.hid q_y0; clear q_y0; clear hb8))
    all_goals
      go_wp2_with fail
      go_meet
      case rel => exact ⟨rfl, HC8⟩
  rename World => w9
  obtain ⟨rfl, hb9⟩ := hcut
  replace hb9 := hb9.out
  have s9 := Lib.hid (show w8.heap.size ≤ w9.heap.size from hb9.size)
  clear c_a0_0 c_a0_1 l_a0
  clear c_y0_0 c_y0_1 l_y0
  replace B_a0 := Lib.hid (blk_in B_a0.out hb9)
  replace B_y0 := Lib.hid (blk_in B_y0.out hb9)
  replace o_r := Lib.hid (o_r.out.below hb9)
  replace o_y0 := Lib.hid (o_y0.out.below hb9)
  replace o_g := Lib.hid (o_g.out.below hb9)
  replace HB := Lib.hid (HB.out.trans (hb9.mono HB.out.size))
  clear hb9
  obtain ⟨c_a0_0, c_a0_1⟩ := cells2 B_a0.out
  have l_a0 := lt_of B_a0.out
  obtain ⟨c_y0_0, c_y0_1⟩ := cells2 B_y0.out
  have l_y0 := lt_of B_y0.out
  go_wp2_with fail
  go_at_call 17
  refine (markNet_h (w4.heap.size) (w5.heap.size) _ x0 (1) _ o_y0.out (by omega) (by have := HS0.out; have := stN_le x0; omega)).mono ?_
  rintro e w10 ⟨rfl, hO10⟩
  have s10 := Lib.hid (show w9.heap.size ≤ w10.heap.size from hO10.size)
  clear c_a0_0 c_a0_1 l_a0
  clear c_y0_0 c_y0_1 l_y0
  replace B_a0 := Lib.hid (hO10.blk B_a0.out (by have := s1.out; have := t1.out; have := s2.out; have := s3.out; have := s4.out; have := s5.out; have := s6.out; have := t6.out; have := s7.out; have := s8.out; have := s9.out; omega))
  replace B_y0 := Lib.hid (hO10.blk B_y0.out (by have := s1.out; have := t1.out; have := s2.out; have := s3.out; have := s4.out; have := s5.out; have := s6.out; have := t6.out; have := s7.out; have := s8.out; have := s9.out; omega))
  replace o_r := Lib.hid (o_r.out.out hO10 (by have := s1.out; have := t1.out; have := s2.out; have := s3.out; have := s4.out; have := s5.out; have := s6.out; have := t6.out; have := s7.out; have := s8.out; have := s9.out; omega))
  replace o_g := Lib.hid (o_g.out.out hO10 (by have := s1.out; have := t1.out; have := s2.out; have := s3.out; have := s4.out; have := s5.out; have := s6.out; have := t6.out; have := s7.out; have := s8.out; have := s9.out; omega))
  replace HB := Lib.hid (hO10.below HB.out HB.out.size (by have := s1.out; have := t1.out; have := s2.out; have := s3.out; have := s4.out; have := s5.out; have := s6.out; have := t6.out; have := s7.out; have := s8.out; have := s9.out; omega))
  clear hO10
  obtain ⟨c_a0_0, c_a0_1⟩ := cells2 B_a0.out
  have l_a0 := lt_of B_a0.out
  obtain ⟨c_y0_0, c_y0_1⟩ := cells2 B_y0.out
  have l_y0 := lt_of B_y0.out
  clear o_y0
  have dk : decide (1 + ((stN x0 : Nat) : Int) < 0) = false := decide_eq_false (by omega)
  go_wp2_with fail
  go_at_call 23
  refine (eqS_ok _ _ (uniformCapacitiesR0 x0 x1) _ o_g.out.v o_r.out.v).mono ?_
  rintro e w11 ⟨rfl, hb11⟩
  have s11 := Lib.hid (show w10.heap.size ≤ w11.heap.size from hb11.size)
  clear c_a0_0 c_a0_1 l_a0
  clear c_y0_0 c_y0_1 l_y0
  replace B_a0 := Lib.hid (blk_in B_a0.out hb11)
  replace B_y0 := Lib.hid (blk_in B_y0.out hb11)
  replace o_r := Lib.hid (o_r.out.below hb11)
  replace o_g := Lib.hid (o_g.out.below hb11)
  replace HB := Lib.hid (HB.out.trans (hb11.mono HB.out.size))
  clear hb11
  obtain ⟨c_a0_0, c_a0_1⟩ := cells2 B_a0.out
  have l_a0 := lt_of B_a0.out
  obtain ⟨c_y0_0, c_y0_1⟩ := cells2 B_y0.out
  have l_y0 := lt_of B_y0.out
  go_wp2_with fail
  go_at_call 26
  refine (mark_h (w6.heap.size) (w7.heap.size) _ (uniformCapacitiesR0 x0 x1) (1) _ o_g.out (by omega) (by have := BD.out; omega)).mono ?_
  rintro e w12 ⟨rfl, m_g, hO12⟩
  have s12 := Lib.hid (show w11.heap.size ≤ w12.heap.size from hO12.size)
  clear c_a0_0 c_a0_1 l_a0
  clear c_y0_0 c_y0_1 l_y0
  replace B_a0 := Lib.hid (hO12.blk B_a0.out (by have := s1.out; have := t1.out; have := s2.out; have := s3.out; have := s4.out; have := s5.out; have := s6.out; have := t6.out; have := s7.out; have := s8.out; have := s9.out; have := s10.out; have := s11.out; omega))
  replace B_y0 := Lib.hid (hO12.blk B_y0.out (by have := s1.out; have := t1.out; have := s2.out; have := s3.out; have := s4.out; have := s5.out; have := s6.out; have := t6.out; have := s7.out; have := s8.out; have := s9.out; have := s10.out; have := s11.out; omega))
  replace o_r := Lib.hid (o_r.out.out hO12 (by have := s1.out; have := t1.out; have := s2.out; have := s3.out; have := s4.out; have := s5.out; have := s6.out; have := t6.out; have := s7.out; have := s8.out; have := s9.out; have := s10.out; have := s11.out; omega))
  replace HB := Lib.hid (hO12.below HB.out HB.out.size (by have := s1.out; have := t1.out; have := s2.out; have := s3.out; have := s4.out; have := s5.out; have := s6.out; have := t6.out; have := s7.out; have := s8.out; have := s9.out; have := s10.out; have := s11.out; omega))
  clear o_g
  have o_g := Lib.hid m_g
  clear m_g
  clear hO12
  obtain ⟨c_a0_0, c_a0_1⟩ := cells2 B_a0.out
  have l_a0 := lt_of B_a0.out
  obtain ⟨c_y0_0, c_y0_1⟩ := cells2 B_y0.out
  have l_y0 := lt_of B_y0.out
  have dm0 : decide (1 + ((((uniformCapacitiesR0 x0 x1)).length : Nat) : Int) < 0) = false := decide_eq_false (by omega)
  go_wp2_with fail
  go_at_call 27
  refine (held_any _ (1) ((uniformCapacitiesR0 x0 x1)).length _ o_g.out.v (by omega) (by have := BD.out; omega) (by have := BD.out; omega)).mono ?_
  rintro e wq ⟨rfl, rfl⟩
  go_wp2_with fail
  go_at_call 13
  refine (toNet_h _ x0 _ (HA0.out.below HB.out) HS0.out).mono ?_
  rintro e w13 ⟨v_q0, rfl, o_q0, hb13⟩
  have s13 := Lib.hid (show w12.heap.size ≤ w13.heap.size from hb13.size)
  clear c_a0_0 c_a0_1 l_a0
  clear c_y0_0 c_y0_1 l_y0
  replace B_a0 := Lib.hid (blk_in B_a0.out hb13)
  replace B_y0 := Lib.hid (blk_in B_y0.out hb13)
  replace o_r := Lib.hid (o_r.out.below hb13)
  replace o_g := Lib.hid (o_g.out.below hb13)
  replace HB := Lib.hid (HB.out.trans (hb13.mono HB.out.size))
  obtain ⟨a_q0, k_q0, rfl⟩ := o_q0.shape
  replace o_q0 := Lib.hid o_q0
  clear hb13
  obtain ⟨c_a0_0, c_a0_1⟩ := cells2 B_a0.out
  have l_a0 := lt_of B_a0.out
  obtain ⟨c_y0_0, c_y0_1⟩ := cells2 B_y0.out
  have l_y0 := lt_of B_y0.out
  go_wp2_with fail
  go_at_call 25
  refine (iuni_w _ x0 x1 _ o_q0.out.v h1).mono ?_
  rintro e w14 ⟨v_u0, rfl, o_u, hb14⟩
  have s14 := Lib.hid (show w13.heap.size ≤ w14.heap.size from hb14.size)
  clear c_a0_0 c_a0_1 l_a0
  clear c_y0_0 c_y0_1 l_y0
  replace B_a0 := Lib.hid (blk_in B_a0.out hb14)
  replace B_y0 := Lib.hid (blk_in B_y0.out hb14)
  replace o_r := Lib.hid (o_r.out.below hb14)
  replace o_g := Lib.hid (o_g.out.below hb14)
  replace o_q0 := Lib.hid (o_q0.out.below hb14)
  replace HB := Lib.hid (HB.out.trans (hb14.mono HB.out.size))
  obtain ⟨a_u0, k_u0, rfl⟩ := o_u.shape
  replace o_u := Lib.hid o_u
  clear hb14
  obtain ⟨c_a0_0, c_a0_1⟩ := cells2 B_a0.out
  have l_a0 := lt_of B_a0.out
  obtain ⟨c_y0_0, c_y0_1⟩ := cells2 B_y0.out
  have l_y0 := lt_of B_y0.out
  clear o_q0
  go_wp2_with fail
  go_at_call 23
  refine (eqS_ok _ _ (uniformCapacitiesR0 x0 x1) _ o_u.out.v o_r.out.v).mono ?_
  rintro e w15 ⟨rfl, hb15⟩
  have s15 := Lib.hid (show w14.heap.size ≤ w15.heap.size from hb15.size)
  clear c_a0_0 c_a0_1 l_a0
  clear c_y0_0 c_y0_1 l_y0
  replace B_a0 := Lib.hid (blk_in B_a0.out hb15)
  replace B_y0 := Lib.hid (blk_in B_y0.out hb15)
  replace o_r := Lib.hid (o_r.out.below hb15)
  replace o_g := Lib.hid (o_g.out.below hb15)
  replace o_u := Lib.hid (o_u.out.below hb15)
  replace HB := Lib.hid (HB.out.trans (hb15.mono HB.out.size))
  clear hb15
  obtain ⟨c_a0_0, c_a0_1⟩ := cells2 B_a0.out
  have l_a0 := lt_of B_a0.out
  obtain ⟨c_y0_0, c_y0_1⟩ := cells2 B_y0.out
  have l_y0 := lt_of B_y0.out
  go_wp2_with fail
  go_at_call 27
  refine (held_any _ (1) ((uniformCapacitiesR0 x0 x1)).length _ o_g.out.v (by omega) (by have := BD.out; omega) (by have := BD.out; omega)).mono ?_
  rintro e wq ⟨rfl, rfl⟩
  go_wp2_with fail
  go_ret
  exact ⟨rfl, HB.out⟩

end Go.Proofs.Ytmfagmfclehdbaa
