/-
  The walk of the law FnExactDropProcess: it answers true and changes nothing that was there.
-/
import Derived.Test.YtkeoefbkeommhaaGwD
import Derived.Test.YtkeoefbkeommhaaLawKit
import Derived.Deep.Cut
import Derived.Deep.RegionHeld3
namespace Go.Proofs.Ytkeoefbkeommhaa
open Go.RowKit

set_option maxRecDepth 100000 in
set_option maxHeartbeats 40000000 in
theorem fnExactDropProcess_walk (v0 : Value) (x0 : Net) (x1 : Int) (w : World) (h0 : NetV w v0 x0) (h1 : (Lit.int .i64 x1).wf = true) :
    Calls Try.prog 8 #[v0, .int .i64 x1] w fun e w' => e = .returned (.bool true) ∧ Below w.heap.size w w' := by
  have HA0 := Lib.hid h0
  obtain ⟨cp, cl, rfl, hp, hl⟩ := h0
  obtain ⟨pa, pcap, rfl⟩ := hp.shape
  obtain ⟨la, lcap, rfl⟩ := hl.shape
  clear hp hl
  have BD := Lib.hid (drop_bd x0 x1)
  have HB := Lib.hid (Below.refl w.heap.size w)
  go_enter Try.func8, Try.ntmps8
  have HL0 := Lib.hid (show (0 : Int) ≤ 1048576 ∧ (1048576 : Int) ≤ 1048576 by omega)
  go_wp2_with fail
  generalize hw1 : w.alloc (.cells #[.slice pa (x0).progs.length pcap, .slice la (x0).links.length lcap] 25) = w1
  have hb1 : Below w.heap.size w w1 := by rw [← hw1]; exact (Below.refl _ _).al _
  have hn1 : w1.heap[w.heap.size]? = some (.cells #[.slice pa (x0).progs.length pcap, .slice la (x0).links.length lcap] 25) := by rw [← hw1]; exact hp1 _ _
  clear hw1
  have s1 := Lib.hid (show w.heap.size ≤ w1.heap.size from hb1.size)
  replace HB := Lib.hid (HB.out.trans (hb1.mono HB.out.size))
  have B_a0 := Lib.hid hn1
  have t1 := Lib.hid (lt_of hn1)
  clear hn1 hb1
  obtain ⟨c_a0_0, c_a0_1⟩ := cells2 B_a0.out
  have l_a0 := lt_of B_a0.out
  go_at_call 12
  by_cases z0 : ((szN x0 : Nat) : Int) ≤ 1048576
  case neg =>
    refine (szNet_any _ x0 (1048576) _ (HA0.out.below HB.out) HL0.out).mono ?_
    rintro e wz ⟨rfl, hb⟩
    rw [if_neg z0]
    go_wp2_with fail
    go_ret
    exact ⟨rfl, HB.out.trans (hb.mono HB.out.size)⟩
  refine (szNet_any _ x0 (1048576) _ (HA0.out.below HB.out) HL0.out).mono ?_
  rintro e w2 ⟨rfl, hb2⟩
  rw [if_pos z0]
  obtain ⟨l1, hl⟩ : ∃ l : Int, l = 1048576 - ((szN x0 : Nat) : Int) := ⟨_, rfl⟩
  rw [← hl]
  have HL1 := Lib.hid (show 0 ≤ l1 ∧ l1 ≤ 1048576 by have := HL0.out; omega)
  have HS0 := Lib.hid (show szN x0 ≤ 1048576 by have := HL0.out; omega)
  have d1 : decide (l1 < 0) = false := decide_eq_false (by have := HL1.out; omega)
  clear hl z0
  have s2 := Lib.hid (show w1.heap.size ≤ w2.heap.size from hb2.size)
  clear c_a0_0 c_a0_1 l_a0
  replace B_a0 := Lib.hid (blk_in B_a0.out hb2)
  replace HB := Lib.hid (HB.out.trans (hb2.mono HB.out.size))
  clear hb2
  obtain ⟨c_a0_0, c_a0_1⟩ := cells2 B_a0.out
  have l_a0 := lt_of B_a0.out
  go_wp2_with fail
  go_at_call 14
  refine (toNet_h _ x0 _ (HA0.out.below HB.out) HS0.out).mono ?_
  rintro e w3 ⟨v_t0, rfl, o_t0, hb3⟩
  have s3 := Lib.hid (show w2.heap.size ≤ w3.heap.size from hb3.size)
  clear c_a0_0 c_a0_1 l_a0
  replace B_a0 := Lib.hid (blk_in B_a0.out hb3)
  replace HB := Lib.hid (HB.out.trans (hb3.mono HB.out.size))
  obtain ⟨a_t0, k_t0, rfl⟩ := o_t0.shape
  replace o_t0 := Lib.hid o_t0
  clear hb3
  obtain ⟨c_a0_0, c_a0_1⟩ := cells2 B_a0.out
  have l_a0 := lt_of B_a0.out
  go_wp2_with fail
  go_at_call 30
  refine (sdrop_any _ x0 x1 _ o_t0.out.v h1).mono ?_
  rintro e w4 ⟨v_r0, rfl, o_r, hb4⟩
  have s4 := Lib.hid (show w3.heap.size ≤ w4.heap.size from hb4.size)
  clear c_a0_0 c_a0_1 l_a0
  replace B_a0 := Lib.hid (blk_in B_a0.out hb4)
  replace o_t0 := Lib.hid (o_t0.out.below hb4)
  replace HB := Lib.hid (HB.out.trans (hb4.mono HB.out.size))
  obtain ⟨a_r, b_r, c_r, d_r, rfl⟩ := o_r.shape
  replace o_r := Lib.hid o_r
  clear hb4
  obtain ⟨c_a0_0, c_a0_1⟩ := cells2 B_a0.out
  have l_a0 := lt_of B_a0.out
  clear o_t0
  go_wp2_with fail
  generalize hw5 : w4.alloc (.cells #[.slice a_r (dropProcessR0 x0 x1).progs.length b_r, .slice c_r (dropProcessR0 x0 x1).links.length d_r] 31) = w5
  have hb5 : Below w4.heap.size w4 w5 := by rw [← hw5]; exact (Below.refl _ _).al _
  have hn5 : w5.heap[w4.heap.size]? = some (.cells #[.slice a_r (dropProcessR0 x0 x1).progs.length b_r, .slice c_r (dropProcessR0 x0 x1).links.length d_r] 31) := by rw [← hw5]; exact hp1 _ _
  clear hw5
  have s5 := Lib.hid (show w4.heap.size ≤ w5.heap.size from hb5.size)
  clear c_a0_0 c_a0_1 l_a0
  replace B_a0 := Lib.hid (blk_in B_a0.out hb5)
  replace o_r := Lib.hid (o_r.out.below hb5)
  replace HB := Lib.hid (HB.out.trans (hb5.mono HB.out.size))
  have B_r := Lib.hid hn5
  have t5 := Lib.hid (lt_of hn5)
  clear hn5 hb5
  obtain ⟨c_a0_0, c_a0_1⟩ := cells2 B_a0.out
  have l_a0 := lt_of B_a0.out
  obtain ⟨c_r_0, c_r_1⟩ := cells2 B_r.out
  have l_r := lt_of B_r.out
  go_wp2_with fail
  go_at_call 14
  refine (toNet_h _ x0 _ (HA0.out.below HB.out) HS0.out).mono ?_
  rintro e w6 ⟨v_y0, rfl, o_y0, hb6⟩
  have s6 := Lib.hid (show w5.heap.size ≤ w6.heap.size from hb6.size)
  clear c_a0_0 c_a0_1 l_a0
  clear c_r_0 c_r_1 l_r
  replace B_a0 := Lib.hid (blk_in B_a0.out hb6)
  replace B_r := Lib.hid (blk_in B_r.out hb6)
  replace o_r := Lib.hid (o_r.out.below hb6)
  replace HB := Lib.hid (HB.out.trans (hb6.mono HB.out.size))
  obtain ⟨a_y0, k_y0, rfl⟩ := o_y0.shape
  replace o_y0 := Lib.hid o_y0
  clear hb6
  obtain ⟨c_a0_0, c_a0_1⟩ := cells2 B_a0.out
  have l_a0 := lt_of B_a0.out
  obtain ⟨c_r_0, c_r_1⟩ := cells2 B_r.out
  have l_r := lt_of B_r.out
  go_wp2_with fail
  generalize hw7 : w6.alloc (.cells #[.slice a_y0 (x0).progs.length (x0).progs.length, .slice k_y0 (x0).links.length (x0).links.length] 31) = w7
  have hb7 : Below w6.heap.size w6 w7 := by rw [← hw7]; exact (Below.refl _ _).al _
  have hn7 : w7.heap[w6.heap.size]? = some (.cells #[.slice a_y0 (x0).progs.length (x0).progs.length, .slice k_y0 (x0).links.length (x0).links.length] 31) := by rw [← hw7]; exact hp1 _ _
  clear hw7
  have s7 := Lib.hid (show w6.heap.size ≤ w7.heap.size from hb7.size)
  clear c_a0_0 c_a0_1 l_a0
  clear c_r_0 c_r_1 l_r
  replace B_a0 := Lib.hid (blk_in B_a0.out hb7)
  replace B_r := Lib.hid (blk_in B_r.out hb7)
  replace o_r := Lib.hid (o_r.out.below hb7)
  replace o_y0 := Lib.hid (o_y0.out.below hb7)
  replace HB := Lib.hid (HB.out.trans (hb7.mono HB.out.size))
  have B_y0 := Lib.hid hn7
  have t7 := Lib.hid (lt_of hn7)
  clear hn7 hb7
  obtain ⟨c_a0_0, c_a0_1⟩ := cells2 B_a0.out
  have l_a0 := lt_of B_a0.out
  obtain ⟨c_r_0, c_r_1⟩ := cells2 B_r.out
  have l_r := lt_of B_r.out
  obtain ⟨c_y0_0, c_y0_1⟩ := cells2 B_y0.out
  have l_y0 := lt_of B_y0.out
  go_wp2_with fail
  go_at_call 31
  refine (idrop_any _ x0 x1 _ o_y0.out.v h1).mono ?_
  rintro e w8 ⟨v_g0, rfl, o_g, hb8⟩
  have s8 := Lib.hid (show w7.heap.size ≤ w8.heap.size from hb8.size)
  clear c_a0_0 c_a0_1 l_a0
  clear c_r_0 c_r_1 l_r
  clear c_y0_0 c_y0_1 l_y0
  replace B_a0 := Lib.hid (blk_in B_a0.out hb8)
  replace B_r := Lib.hid (blk_in B_r.out hb8)
  replace B_y0 := Lib.hid (blk_in B_y0.out hb8)
  replace o_r := Lib.hid (o_r.out.below hb8)
  replace o_y0 := Lib.hid (o_y0.out.below hb8)
  replace HB := Lib.hid (HB.out.trans (hb8.mono HB.out.size))
  obtain ⟨a_g, b_g, c_g, d_g, rfl⟩ := o_g.shape
  replace o_g := Lib.hid o_g
  clear hb8
  obtain ⟨c_a0_0, c_a0_1⟩ := cells2 B_a0.out
  have l_a0 := lt_of B_a0.out
  obtain ⟨c_r_0, c_r_1⟩ := cells2 B_r.out
  have l_r := lt_of B_r.out
  obtain ⟨c_y0_0, c_y0_1⟩ := cells2 B_y0.out
  have l_y0 := lt_of B_y0.out
  go_wp2_with fail
  generalize hw9 : w8.alloc (.cells #[.slice a_g (dropProcessR0 x0 x1).progs.length b_g, .slice c_g (dropProcessR0 x0 x1).links.length d_g] 31) = w9
  have hb9 : Below w8.heap.size w8 w9 := by rw [← hw9]; exact (Below.refl _ _).al _
  have hn9 : w9.heap[w8.heap.size]? = some (.cells #[.slice a_g (dropProcessR0 x0 x1).progs.length b_g, .slice c_g (dropProcessR0 x0 x1).links.length d_g] 31) := by rw [← hw9]; exact hp1 _ _
  clear hw9
  have s9 := Lib.hid (show w8.heap.size ≤ w9.heap.size from hb9.size)
  clear c_a0_0 c_a0_1 l_a0
  clear c_r_0 c_r_1 l_r
  clear c_y0_0 c_y0_1 l_y0
  replace B_a0 := Lib.hid (blk_in B_a0.out hb9)
  replace B_r := Lib.hid (blk_in B_r.out hb9)
  replace B_y0 := Lib.hid (blk_in B_y0.out hb9)
  replace o_r := Lib.hid (o_r.out.below hb9)
  replace o_y0 := Lib.hid (o_y0.out.below hb9)
  replace o_g := Lib.hid (o_g.out.below hb9)
  replace HB := Lib.hid (HB.out.trans (hb9.mono HB.out.size))
  have B_g := Lib.hid hn9
  have t9 := Lib.hid (lt_of hn9)
  clear hn9 hb9
  obtain ⟨c_a0_0, c_a0_1⟩ := cells2 B_a0.out
  have l_a0 := lt_of B_a0.out
  obtain ⟨c_r_0, c_r_1⟩ := cells2 B_r.out
  have l_r := lt_of B_r.out
  obtain ⟨c_y0_0, c_y0_1⟩ := cells2 B_y0.out
  have l_y0 := lt_of B_y0.out
  obtain ⟨c_g_0, c_g_1⟩ := cells2 B_g.out
  have l_g := lt_of B_g.out
  go_at_call 17
  refine (eqNet_ok _ _ (dropProcessR0 x0 x1) _ o_g.out.v o_r.out.v).mono ?_
  rintro e w10 ⟨rfl, hb10⟩
  have s10 := Lib.hid (show w9.heap.size ≤ w10.heap.size from hb10.size)
  clear c_a0_0 c_a0_1 l_a0
  clear c_r_0 c_r_1 l_r
  clear c_y0_0 c_y0_1 l_y0
  clear c_g_0 c_g_1 l_g
  replace B_a0 := Lib.hid (blk_in B_a0.out hb10)
  replace B_r := Lib.hid (blk_in B_r.out hb10)
  replace B_y0 := Lib.hid (blk_in B_y0.out hb10)
  replace B_g := Lib.hid (blk_in B_g.out hb10)
  replace o_r := Lib.hid (o_r.out.below hb10)
  replace o_y0 := Lib.hid (o_y0.out.below hb10)
  replace o_g := Lib.hid (o_g.out.below hb10)
  replace HB := Lib.hid (HB.out.trans (hb10.mono HB.out.size))
  clear hb10
  obtain ⟨c_a0_0, c_a0_1⟩ := cells2 B_a0.out
  have l_a0 := lt_of B_a0.out
  obtain ⟨c_r_0, c_r_1⟩ := cells2 B_r.out
  have l_r := lt_of B_r.out
  obtain ⟨c_y0_0, c_y0_1⟩ := cells2 B_y0.out
  have l_y0 := lt_of B_y0.out
  obtain ⟨c_g_0, c_g_1⟩ := cells2 B_g.out
  have l_g := lt_of B_g.out
  go_upto_region 10 with fail
  go_cut [49] from 101 (fun s wr => s = .bool false ∧ Hid (Below w10.heap.size w10 wr))
  case first =>
    go_region_held3 (fun w' => w'.cell? ⟨w.heap.size, 0, none⟩ = some (.slice pa (x0).progs.length pcap) ∧ w'.cell? ⟨w.heap.size, 1, none⟩ = some (.slice la (x0).links.length lcap) ∧ w'.cell? ⟨w6.heap.size, 0, none⟩ = some (.slice a_y0 (x0).progs.length (x0).progs.length) ∧ w'.cell? ⟨w6.heap.size, 1, none⟩ = some (.slice k_y0 (x0).links.length (x0).links.length)) (go_keep) (first | (go_at_call 14; refine (toNet_h _ x0 _ (HA0.out.below (HB.out.trans ((by first | with_reducible exact Below.refl _ _ | with_reducible exact (Below.refl _ _).drew : Below w10.heap.size w10 _).mono HB.out.size))) HS0.out).mono ?_; rintro e W7 ⟨v7, rfl, o7, hb7⟩; have hc7 := (show Below w10.heap.size w10 W7 by first | with_reducible exact hb7 | with_reducible exact cr_d hb7); have HC7 := Lib.hid hc7; have q_a0 := blk_in B_a0.out hc7; have q_y0 := blk_in B_y0.out hc7; obtain ⟨e7_a0_0, e7_a0_1⟩ := cells2 q_a0; have l7_a0 := lt_of q_a0; have Q7_a0 := Lib.hid q_a0; clear q_a0; obtain ⟨e7_y0_0, e7_y0_1⟩ := cells2 q_y0; have l7_y0 := lt_of q_y0; have Q7_y0 := Lib.hid q_y0; clear q_y0; have V7 := Lib.hid o7.v; have V6 := Lib.hid ((o_y0.out.below hc7).v); clear o7 hb7 hc7) | (go_at_call 17; refine (eqNet_ok _ _ x0 _ V6.out V7.out).mono ?_; rintro e W8 ⟨rfl, hb8⟩; have HC8 := Lib.hid (HC7.out.trans (hb8.mono HC7.out.size)); have q_a0 := blk_in Q7_a0.out hb8; have q_y0 := blk_in Q7_y0.out hb8; obtain ⟨e8_a0_0, e8_a0_1⟩ := cells2 q_a0; have l8_a0 := lt_of q_a0; have Q8_a0 := Lib.hid q_a0; clear q_a0; obtain ⟨e8_y0_0, e8_y0_1⟩ := cells2 q_y0; have l8_y0 := lt_of q_y0; have Q8_y0 := Lib.hid q_y0; clear q_y0; clear hb8))
    all_goals
      go_wp2_with fail
      go_meet
      case rel => exact ⟨rfl, HC8⟩
  rename World => w11
  obtain ⟨rfl, hb11⟩ := hcut
  replace hb11 := hb11.out
  have s11 := Lib.hid (show w10.heap.size ≤ w11.heap.size from hb11.size)
  clear c_a0_0 c_a0_1 l_a0
  clear c_r_0 c_r_1 l_r
  clear c_y0_0 c_y0_1 l_y0
  clear c_g_0 c_g_1 l_g
  replace B_a0 := Lib.hid (blk_in B_a0.out hb11)
  replace B_r := Lib.hid (blk_in B_r.out hb11)
  replace B_y0 := Lib.hid (blk_in B_y0.out hb11)
  replace B_g := Lib.hid (blk_in B_g.out hb11)
  replace o_r := Lib.hid (o_r.out.below hb11)
  replace o_y0 := Lib.hid (o_y0.out.below hb11)
  replace o_g := Lib.hid (o_g.out.below hb11)
  replace HB := Lib.hid (HB.out.trans (hb11.mono HB.out.size))
  clear hb11
  obtain ⟨c_a0_0, c_a0_1⟩ := cells2 B_a0.out
  have l_a0 := lt_of B_a0.out
  obtain ⟨c_r_0, c_r_1⟩ := cells2 B_r.out
  have l_r := lt_of B_r.out
  obtain ⟨c_y0_0, c_y0_1⟩ := cells2 B_y0.out
  have l_y0 := lt_of B_y0.out
  obtain ⟨c_g_0, c_g_1⟩ := cells2 B_g.out
  have l_g := lt_of B_g.out
  go_wp2_with fail
  go_at_call 19
  refine (markNet_h (w5.heap.size) (w6.heap.size) _ x0 (1) _ o_y0.out (by omega) (by have := HS0.out; have := stN_le x0; omega)).mono ?_
  rintro e w12 ⟨rfl, hO12⟩
  have s12 := Lib.hid (show w11.heap.size ≤ w12.heap.size from hO12.size)
  clear c_a0_0 c_a0_1 l_a0
  clear c_r_0 c_r_1 l_r
  clear c_y0_0 c_y0_1 l_y0
  clear c_g_0 c_g_1 l_g
  replace B_a0 := Lib.hid (hO12.blk B_a0.out (by have := s1.out; have := t1.out; have := s2.out; have := s3.out; have := s4.out; have := s5.out; have := t5.out; have := s6.out; have := s7.out; have := t7.out; have := s8.out; have := s9.out; have := t9.out; have := s10.out; have := s11.out; omega))
  replace B_r := Lib.hid (hO12.blk B_r.out (by have := s1.out; have := t1.out; have := s2.out; have := s3.out; have := s4.out; have := s5.out; have := t5.out; have := s6.out; have := s7.out; have := t7.out; have := s8.out; have := s9.out; have := t9.out; have := s10.out; have := s11.out; omega))
  replace B_y0 := Lib.hid (hO12.blk B_y0.out (by have := s1.out; have := t1.out; have := s2.out; have := s3.out; have := s4.out; have := s5.out; have := t5.out; have := s6.out; have := s7.out; have := t7.out; have := s8.out; have := s9.out; have := t9.out; have := s10.out; have := s11.out; omega))
  replace B_g := Lib.hid (hO12.blk B_g.out (by have := s1.out; have := t1.out; have := s2.out; have := s3.out; have := s4.out; have := s5.out; have := t5.out; have := s6.out; have := s7.out; have := t7.out; have := s8.out; have := s9.out; have := t9.out; have := s10.out; have := s11.out; omega))
  replace o_r := Lib.hid (o_r.out.out hO12 (by have := s1.out; have := t1.out; have := s2.out; have := s3.out; have := s4.out; have := s5.out; have := t5.out; have := s6.out; have := s7.out; have := t7.out; have := s8.out; have := s9.out; have := t9.out; have := s10.out; have := s11.out; omega))
  replace o_g := Lib.hid (o_g.out.out hO12 (by have := s1.out; have := t1.out; have := s2.out; have := s3.out; have := s4.out; have := s5.out; have := t5.out; have := s6.out; have := s7.out; have := t7.out; have := s8.out; have := s9.out; have := t9.out; have := s10.out; have := s11.out; omega))
  replace HB := Lib.hid (hO12.below HB.out HB.out.size (by have := s1.out; have := t1.out; have := s2.out; have := s3.out; have := s4.out; have := s5.out; have := t5.out; have := s6.out; have := s7.out; have := t7.out; have := s8.out; have := s9.out; have := t9.out; have := s10.out; have := s11.out; omega))
  clear hO12
  obtain ⟨c_a0_0, c_a0_1⟩ := cells2 B_a0.out
  have l_a0 := lt_of B_a0.out
  obtain ⟨c_r_0, c_r_1⟩ := cells2 B_r.out
  have l_r := lt_of B_r.out
  obtain ⟨c_y0_0, c_y0_1⟩ := cells2 B_y0.out
  have l_y0 := lt_of B_y0.out
  obtain ⟨c_g_0, c_g_1⟩ := cells2 B_g.out
  have l_g := lt_of B_g.out
  clear o_y0
  have dk : decide (1 + ((stN x0 : Nat) : Int) < 0) = false := decide_eq_false (by omega)
  go_wp2_with fail
  go_at_call 17
  refine (eqNet_ok _ _ (dropProcessR0 x0 x1) _ o_g.out.v o_r.out.v).mono ?_
  rintro e w13 ⟨rfl, hb13⟩
  have s13 := Lib.hid (show w12.heap.size ≤ w13.heap.size from hb13.size)
  clear c_a0_0 c_a0_1 l_a0
  clear c_r_0 c_r_1 l_r
  clear c_y0_0 c_y0_1 l_y0
  clear c_g_0 c_g_1 l_g
  replace B_a0 := Lib.hid (blk_in B_a0.out hb13)
  replace B_r := Lib.hid (blk_in B_r.out hb13)
  replace B_y0 := Lib.hid (blk_in B_y0.out hb13)
  replace B_g := Lib.hid (blk_in B_g.out hb13)
  replace o_r := Lib.hid (o_r.out.below hb13)
  replace o_g := Lib.hid (o_g.out.below hb13)
  replace HB := Lib.hid (HB.out.trans (hb13.mono HB.out.size))
  clear hb13
  obtain ⟨c_a0_0, c_a0_1⟩ := cells2 B_a0.out
  have l_a0 := lt_of B_a0.out
  obtain ⟨c_r_0, c_r_1⟩ := cells2 B_r.out
  have l_r := lt_of B_r.out
  obtain ⟨c_y0_0, c_y0_1⟩ := cells2 B_y0.out
  have l_y0 := lt_of B_y0.out
  obtain ⟨c_g_0, c_g_1⟩ := cells2 B_g.out
  have l_g := lt_of B_g.out
  go_wp2_with fail
  go_at_call 19
  refine (markNet_r (w7.heap.size) (w8.heap.size) _ (dropProcessR0 x0 x1) (1) _ o_g.out (by have := s1.out; have := t1.out; have := s2.out; have := s3.out; have := s4.out; have := s5.out; have := t5.out; have := s6.out; have := s7.out; have := t7.out; have := s8.out; have := s9.out; have := t9.out; have := s10.out; have := s11.out; have := s12.out; have := s13.out; omega) (by omega) (by have := BD.out; omega)).mono ?_
  rintro e w14 ⟨rfl, m_g, hO14⟩
  have s14 := Lib.hid (show w13.heap.size ≤ w14.heap.size from hO14.size)
  clear c_a0_0 c_a0_1 l_a0
  clear c_r_0 c_r_1 l_r
  clear c_y0_0 c_y0_1 l_y0
  clear c_g_0 c_g_1 l_g
  replace B_a0 := Lib.hid (hO14.blk B_a0.out (by have := s1.out; have := t1.out; have := s2.out; have := s3.out; have := s4.out; have := s5.out; have := t5.out; have := s6.out; have := s7.out; have := t7.out; have := s8.out; have := s9.out; have := t9.out; have := s10.out; have := s11.out; have := s12.out; have := s13.out; omega))
  replace B_r := Lib.hid (hO14.blk B_r.out (by have := s1.out; have := t1.out; have := s2.out; have := s3.out; have := s4.out; have := s5.out; have := t5.out; have := s6.out; have := s7.out; have := t7.out; have := s8.out; have := s9.out; have := t9.out; have := s10.out; have := s11.out; have := s12.out; have := s13.out; omega))
  replace B_y0 := Lib.hid (hO14.blk B_y0.out (by have := s1.out; have := t1.out; have := s2.out; have := s3.out; have := s4.out; have := s5.out; have := t5.out; have := s6.out; have := s7.out; have := t7.out; have := s8.out; have := s9.out; have := t9.out; have := s10.out; have := s11.out; have := s12.out; have := s13.out; omega))
  replace B_g := Lib.hid (hO14.blk B_g.out (by have := s1.out; have := t1.out; have := s2.out; have := s3.out; have := s4.out; have := s5.out; have := t5.out; have := s6.out; have := s7.out; have := t7.out; have := s8.out; have := s9.out; have := t9.out; have := s10.out; have := s11.out; have := s12.out; have := s13.out; omega))
  replace o_r := Lib.hid (o_r.out.out hO14 (by have := s1.out; have := t1.out; have := s2.out; have := s3.out; have := s4.out; have := s5.out; have := t5.out; have := s6.out; have := s7.out; have := t7.out; have := s8.out; have := s9.out; have := t9.out; have := s10.out; have := s11.out; have := s12.out; have := s13.out; omega))
  replace HB := Lib.hid (hO14.below HB.out HB.out.size (by have := s1.out; have := t1.out; have := s2.out; have := s3.out; have := s4.out; have := s5.out; have := t5.out; have := s6.out; have := s7.out; have := t7.out; have := s8.out; have := s9.out; have := t9.out; have := s10.out; have := s11.out; have := s12.out; have := s13.out; omega))
  clear o_g
  have o_g := Lib.hid m_g
  clear m_g
  clear hO14
  obtain ⟨c_a0_0, c_a0_1⟩ := cells2 B_a0.out
  have l_a0 := lt_of B_a0.out
  obtain ⟨c_r_0, c_r_1⟩ := cells2 B_r.out
  have l_r := lt_of B_r.out
  obtain ⟨c_y0_0, c_y0_1⟩ := cells2 B_y0.out
  have l_y0 := lt_of B_y0.out
  obtain ⟨c_g_0, c_g_1⟩ := cells2 B_g.out
  have l_g := lt_of B_g.out
  have dm0 : decide (1 + (((stN (dropProcessR0 x0 x1) : Nat) : Int)) < 0) = false := decide_eq_false (by omega)
  go_wp2_with fail
  go_at_call 21
  refine (heldNet_r _ (dropProcessR0 x0 x1) (1) _ o_g.out.v (by omega) (by have := BD.out; omega)).mono ?_
  rintro e w15 ⟨rfl, hb15⟩
  have s15 := Lib.hid (show w14.heap.size ≤ w15.heap.size from hb15.size)
  clear c_a0_0 c_a0_1 l_a0
  clear c_r_0 c_r_1 l_r
  clear c_y0_0 c_y0_1 l_y0
  clear c_g_0 c_g_1 l_g
  replace B_a0 := Lib.hid (blk_in B_a0.out hb15)
  replace B_r := Lib.hid (blk_in B_r.out hb15)
  replace B_y0 := Lib.hid (blk_in B_y0.out hb15)
  replace B_g := Lib.hid (blk_in B_g.out hb15)
  replace o_r := Lib.hid (o_r.out.below hb15)
  replace o_g := Lib.hid (o_g.out.below hb15)
  replace HB := Lib.hid (HB.out.trans (hb15.mono HB.out.size))
  clear hb15
  obtain ⟨c_a0_0, c_a0_1⟩ := cells2 B_a0.out
  have l_a0 := lt_of B_a0.out
  obtain ⟨c_r_0, c_r_1⟩ := cells2 B_r.out
  have l_r := lt_of B_r.out
  obtain ⟨c_y0_0, c_y0_1⟩ := cells2 B_y0.out
  have l_y0 := lt_of B_y0.out
  obtain ⟨c_g_0, c_g_1⟩ := cells2 B_g.out
  have l_g := lt_of B_g.out
  go_wp2_with fail
  go_at_call 14
  refine (toNet_h _ x0 _ (HA0.out.below HB.out) HS0.out).mono ?_
  rintro e w16 ⟨v_q0, rfl, o_q0, hb16⟩
  have s16 := Lib.hid (show w15.heap.size ≤ w16.heap.size from hb16.size)
  clear c_a0_0 c_a0_1 l_a0
  clear c_r_0 c_r_1 l_r
  clear c_y0_0 c_y0_1 l_y0
  clear c_g_0 c_g_1 l_g
  replace B_a0 := Lib.hid (blk_in B_a0.out hb16)
  replace B_r := Lib.hid (blk_in B_r.out hb16)
  replace B_y0 := Lib.hid (blk_in B_y0.out hb16)
  replace B_g := Lib.hid (blk_in B_g.out hb16)
  replace o_r := Lib.hid (o_r.out.below hb16)
  replace o_g := Lib.hid (o_g.out.below hb16)
  replace HB := Lib.hid (HB.out.trans (hb16.mono HB.out.size))
  obtain ⟨a_q0, k_q0, rfl⟩ := o_q0.shape
  replace o_q0 := Lib.hid o_q0
  clear hb16
  obtain ⟨c_a0_0, c_a0_1⟩ := cells2 B_a0.out
  have l_a0 := lt_of B_a0.out
  obtain ⟨c_r_0, c_r_1⟩ := cells2 B_r.out
  have l_r := lt_of B_r.out
  obtain ⟨c_y0_0, c_y0_1⟩ := cells2 B_y0.out
  have l_y0 := lt_of B_y0.out
  obtain ⟨c_g_0, c_g_1⟩ := cells2 B_g.out
  have l_g := lt_of B_g.out
  go_wp2_with fail
  go_at_call 31
  refine (idrop_any _ x0 x1 _ o_q0.out.v h1).mono ?_
  rintro e w17 ⟨v_u0, rfl, o_u, hb17⟩
  have s17 := Lib.hid (show w16.heap.size ≤ w17.heap.size from hb17.size)
  clear c_a0_0 c_a0_1 l_a0
  clear c_r_0 c_r_1 l_r
  clear c_y0_0 c_y0_1 l_y0
  clear c_g_0 c_g_1 l_g
  replace B_a0 := Lib.hid (blk_in B_a0.out hb17)
  replace B_r := Lib.hid (blk_in B_r.out hb17)
  replace B_y0 := Lib.hid (blk_in B_y0.out hb17)
  replace B_g := Lib.hid (blk_in B_g.out hb17)
  replace o_r := Lib.hid (o_r.out.below hb17)
  replace o_g := Lib.hid (o_g.out.below hb17)
  replace o_q0 := Lib.hid (o_q0.out.below hb17)
  replace HB := Lib.hid (HB.out.trans (hb17.mono HB.out.size))
  obtain ⟨a_u, b_u, c_u, d_u, rfl⟩ := o_u.shape
  replace o_u := Lib.hid o_u
  clear hb17
  obtain ⟨c_a0_0, c_a0_1⟩ := cells2 B_a0.out
  have l_a0 := lt_of B_a0.out
  obtain ⟨c_r_0, c_r_1⟩ := cells2 B_r.out
  have l_r := lt_of B_r.out
  obtain ⟨c_y0_0, c_y0_1⟩ := cells2 B_y0.out
  have l_y0 := lt_of B_y0.out
  obtain ⟨c_g_0, c_g_1⟩ := cells2 B_g.out
  have l_g := lt_of B_g.out
  clear o_q0
  go_wp2_with fail
  generalize hw18 : w17.alloc (.cells #[.slice a_u (dropProcessR0 x0 x1).progs.length b_u, .slice c_u (dropProcessR0 x0 x1).links.length d_u] 31) = w18
  have hb18 : Below w17.heap.size w17 w18 := by rw [← hw18]; exact (Below.refl _ _).al _
  have hn18 : w18.heap[w17.heap.size]? = some (.cells #[.slice a_u (dropProcessR0 x0 x1).progs.length b_u, .slice c_u (dropProcessR0 x0 x1).links.length d_u] 31) := by rw [← hw18]; exact hp1 _ _
  clear hw18
  have s18 := Lib.hid (show w17.heap.size ≤ w18.heap.size from hb18.size)
  clear c_a0_0 c_a0_1 l_a0
  clear c_r_0 c_r_1 l_r
  clear c_y0_0 c_y0_1 l_y0
  clear c_g_0 c_g_1 l_g
  replace B_a0 := Lib.hid (blk_in B_a0.out hb18)
  replace B_r := Lib.hid (blk_in B_r.out hb18)
  replace B_y0 := Lib.hid (blk_in B_y0.out hb18)
  replace B_g := Lib.hid (blk_in B_g.out hb18)
  replace o_r := Lib.hid (o_r.out.below hb18)
  replace o_g := Lib.hid (o_g.out.below hb18)
  replace o_u := Lib.hid (o_u.out.below hb18)
  replace HB := Lib.hid (HB.out.trans (hb18.mono HB.out.size))
  have B_u := Lib.hid hn18
  have t18 := Lib.hid (lt_of hn18)
  clear hn18 hb18
  obtain ⟨c_a0_0, c_a0_1⟩ := cells2 B_a0.out
  have l_a0 := lt_of B_a0.out
  obtain ⟨c_r_0, c_r_1⟩ := cells2 B_r.out
  have l_r := lt_of B_r.out
  obtain ⟨c_y0_0, c_y0_1⟩ := cells2 B_y0.out
  have l_y0 := lt_of B_y0.out
  obtain ⟨c_g_0, c_g_1⟩ := cells2 B_g.out
  have l_g := lt_of B_g.out
  obtain ⟨c_u_0, c_u_1⟩ := cells2 B_u.out
  have l_u := lt_of B_u.out
  go_at_call 17
  refine (eqNet_ok _ _ (dropProcessR0 x0 x1) _ o_u.out.v o_r.out.v).mono ?_
  rintro e w19 ⟨rfl, hb19⟩
  have s19 := Lib.hid (show w18.heap.size ≤ w19.heap.size from hb19.size)
  clear c_a0_0 c_a0_1 l_a0
  clear c_r_0 c_r_1 l_r
  clear c_y0_0 c_y0_1 l_y0
  clear c_g_0 c_g_1 l_g
  clear c_u_0 c_u_1 l_u
  replace B_a0 := Lib.hid (blk_in B_a0.out hb19)
  replace B_r := Lib.hid (blk_in B_r.out hb19)
  replace B_y0 := Lib.hid (blk_in B_y0.out hb19)
  replace B_g := Lib.hid (blk_in B_g.out hb19)
  replace B_u := Lib.hid (blk_in B_u.out hb19)
  replace o_r := Lib.hid (o_r.out.below hb19)
  replace o_g := Lib.hid (o_g.out.below hb19)
  replace o_u := Lib.hid (o_u.out.below hb19)
  replace HB := Lib.hid (HB.out.trans (hb19.mono HB.out.size))
  clear hb19
  obtain ⟨c_a0_0, c_a0_1⟩ := cells2 B_a0.out
  have l_a0 := lt_of B_a0.out
  obtain ⟨c_r_0, c_r_1⟩ := cells2 B_r.out
  have l_r := lt_of B_r.out
  obtain ⟨c_y0_0, c_y0_1⟩ := cells2 B_y0.out
  have l_y0 := lt_of B_y0.out
  obtain ⟨c_g_0, c_g_1⟩ := cells2 B_g.out
  have l_g := lt_of B_g.out
  obtain ⟨c_u_0, c_u_1⟩ := cells2 B_u.out
  have l_u := lt_of B_u.out
  go_wp2_with fail
  go_at_call 21
  refine (heldNet_r _ (dropProcessR0 x0 x1) (1) _ o_g.out.v (by omega) (by have := BD.out; omega)).mono ?_
  rintro e w20 ⟨rfl, hb20⟩
  have s20 := Lib.hid (show w19.heap.size ≤ w20.heap.size from hb20.size)
  clear c_a0_0 c_a0_1 l_a0
  clear c_r_0 c_r_1 l_r
  clear c_y0_0 c_y0_1 l_y0
  clear c_g_0 c_g_1 l_g
  clear c_u_0 c_u_1 l_u
  replace B_a0 := Lib.hid (blk_in B_a0.out hb20)
  replace B_r := Lib.hid (blk_in B_r.out hb20)
  replace B_y0 := Lib.hid (blk_in B_y0.out hb20)
  replace B_g := Lib.hid (blk_in B_g.out hb20)
  replace B_u := Lib.hid (blk_in B_u.out hb20)
  replace o_r := Lib.hid (o_r.out.below hb20)
  replace o_g := Lib.hid (o_g.out.below hb20)
  replace o_u := Lib.hid (o_u.out.below hb20)
  replace HB := Lib.hid (HB.out.trans (hb20.mono HB.out.size))
  clear hb20
  obtain ⟨c_a0_0, c_a0_1⟩ := cells2 B_a0.out
  have l_a0 := lt_of B_a0.out
  obtain ⟨c_r_0, c_r_1⟩ := cells2 B_r.out
  have l_r := lt_of B_r.out
  obtain ⟨c_y0_0, c_y0_1⟩ := cells2 B_y0.out
  have l_y0 := lt_of B_y0.out
  obtain ⟨c_g_0, c_g_1⟩ := cells2 B_g.out
  have l_g := lt_of B_g.out
  obtain ⟨c_u_0, c_u_1⟩ := cells2 B_u.out
  have l_u := lt_of B_u.out
  go_wp2_with fail
  go_ret
  exact ⟨rfl, HB.out⟩

end Go.Proofs.Ytkeoefbkeommhaa
