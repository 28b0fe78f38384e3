/-
  The walk of the law FnExactFeedNetwork: it answers true and changes nothing that was there.
-/
import Derived.Test.YtkeoefbkeommhaaNetHI
import Derived.Test.YtkeoefbkeommhaaLawKit
import Derived.Deep.Cut
import Derived.Deep.RegionHeld3
namespace Go.Proofs.Ytkeoefbkeommhaa
open Go.RowKit

set_option maxRecDepth 100000 in
set_option maxHeartbeats 40000000 in
theorem fnExactFeedNetwork_walk (v0 : Value) (x0 : Net) (x1 : Int) (v2 : Value) (x2 : List Int) (w : World) (h0 : NetV w v0 x0) (h1 : (Lit.int .i64 x1).wf = true) (h2 : Sl w v2 x2) :
    Calls Try.prog 3 #[v0, .int .i64 x1, v2] w fun e w' => e = .returned (.bool true) ∧ Below w.heap.size w w' := by
  have HA0 := Lib.hid h0
  obtain ⟨cp, cl, rfl, hp, hl⟩ := h0
  obtain ⟨pa, pcap, rfl⟩ := hp.shape
  obtain ⟨la, lcap, rfl⟩ := hl.shape
  clear hp hl
  have HA2 := Lib.hid h2
  obtain ⟨a2, k2, rfl⟩ := h2.shape
  clear h2
  have BD := Lib.hid (feed_bd x0 x1 x2)
  have HB := Lib.hid (Below.refl w.heap.size w)
  go_enter Try.func3, Try.ntmps3
  by_cases z2 : (x2).length ≤ 1048576
  case neg =>
    have d : decide ((((x2).length : Nat) : Int) > 1048576) = true := decide_eq_true (by omega)
    have d' : decide (1048576 < (((x2).length : Nat) : Int)) = true := decide_eq_true (by omega)
    go_wp2_with fail
    go_ret
    exact ⟨rfl, HB.out.al _⟩
  have d2s : decide ((((x2).length : Nat) : Int) > 1048576) = false := decide_eq_false (by omega)
  have d2t : decide (1048576 < (((x2).length : Nat) : Int)) = false := decide_eq_false (by omega)
  have HS2 := Lib.hid z2
  clear z2
  have HL0 := Lib.hid (show (0 : Int) ≤ 1048576 ∧ (1048576 : Int) ≤ 1048576 by omega)
  go_wp2_with fail
  generalize hw1 : w.alloc (.cells #[.slice pa (x0).progs.length pcap, .slice la (x0).links.length lcap] 25) = w1
  have hb1 : Below w.heap.size w w1 := by rw [← hw1]; exact (Below.refl _ _).al _
  have hn1 : w1.heap[w.heap.size]? = some (.cells #[.slice pa (x0).progs.length pcap, .slice la (x0).links.length lcap] 25) := by rw [← hw1]; exact hp1 _ _
  clear hw1
  have s1 := Lib.hid (show w.heap.size ≤ w1.heap.size from hb1.size)
  replace HB := Lib.hid (HB.out.trans (hb1.mono HB.out.size))
  have B_a0 := Lib.hid hn1
  have t1 := Lib.hid (lt_of hn1)
  clear hn1 hb1
  obtain ⟨c_a0_0, c_a0_1⟩ := cells2 B_a0.out
  have l_a0 := lt_of B_a0.out
  go_at_call 12
  by_cases z0 : ((szN x0 : Nat) : Int) ≤ 1048576
  case neg =>
    refine (szNet_any _ x0 (1048576) _ (HA0.out.below HB.out) HL0.out).mono ?_
    rintro e wz ⟨rfl, hb⟩
    rw [if_neg z0]
    go_wp2_with fail
    go_ret
    exact ⟨rfl, HB.out.trans (hb.mono HB.out.size)⟩
  refine (szNet_any _ x0 (1048576) _ (HA0.out.below HB.out) HL0.out).mono ?_
  rintro e w2 ⟨rfl, hb2⟩
  rw [if_pos z0]
  obtain ⟨l1, hl⟩ : ∃ l : Int, l = 1048576 - ((szN x0 : Nat) : Int) := ⟨_, rfl⟩
  rw [← hl]
  have HL1 := Lib.hid (show 0 ≤ l1 ∧ l1 ≤ 1048576 by have := HL0.out; omega)
  have HS0 := Lib.hid (show szN x0 ≤ 1048576 by have := HL0.out; omega)
  have d1 : decide (l1 < 0) = false := decide_eq_false (by have := HL1.out; omega)
  clear hl z0
  have s2 := Lib.hid (show w1.heap.size ≤ w2.heap.size from hb2.size)
  clear c_a0_0 c_a0_1 l_a0
  replace B_a0 := Lib.hid (blk_in B_a0.out hb2)
  replace HB := Lib.hid (HB.out.trans (hb2.mono HB.out.size))
  clear hb2
  obtain ⟨c_a0_0, c_a0_1⟩ := cells2 B_a0.out
  have l_a0 := lt_of B_a0.out
  go_wp2_with fail
  go_at_call 14
  refine (toNet_h _ x0 _ (HA0.out.below HB.out) HS0.out).mono ?_
  rintro e w3 ⟨v_t0, rfl, o_t0, hb3⟩
  have s3 := Lib.hid (show w2.heap.size ≤ w3.heap.size from hb3.size)
  clear c_a0_0 c_a0_1 l_a0
  replace B_a0 := Lib.hid (blk_in B_a0.out hb3)
  replace HB := Lib.hid (HB.out.trans (hb3.mono HB.out.size))
  obtain ⟨a_t0, k_t0, rfl⟩ := o_t0.shape
  replace o_t0 := Lib.hid o_t0
  clear hb3
  obtain ⟨c_a0_0, c_a0_1⟩ := cells2 B_a0.out
  have l_a0 := lt_of B_a0.out
  go_wp2_with fail
  go_at_call 15
  refine (toInt_h _ x2 _ (HA2.out.below HB.out) HS2.out).mono ?_
  rintro e w4 ⟨v_t2, rfl, o_t2, hb4⟩
  have s4 := Lib.hid (show w3.heap.size ≤ w4.heap.size from hb4.size)
  clear c_a0_0 c_a0_1 l_a0
  replace B_a0 := Lib.hid (blk_in B_a0.out hb4)
  replace o_t0 := Lib.hid (o_t0.out.below hb4)
  replace HB := Lib.hid (HB.out.trans (hb4.mono HB.out.size))
  obtain ⟨a_t2, k_t2, rfl⟩ := o_t2.shape
  replace o_t2 := Lib.hid o_t2
  clear hb4
  obtain ⟨c_a0_0, c_a0_1⟩ := cells2 B_a0.out
  have l_a0 := lt_of B_a0.out
  go_wp2_with fail
  go_at_call 13
  refine (sfeed_any _ x0 x1 _ x2 _ o_t0.out.v h1 o_t2.out.v HS2.out).mono ?_
  rintro e w5 ⟨v_r0, rfl, o_r, hb5⟩
  have s5 := Lib.hid (show w4.heap.size ≤ w5.heap.size from hb5.size)
  clear c_a0_0 c_a0_1 l_a0
  replace B_a0 := Lib.hid (blk_in B_a0.out hb5)
  replace o_t0 := Lib.hid (o_t0.out.below hb5)
  replace o_t2 := Lib.hid (o_t2.out.below hb5)
  replace HB := Lib.hid (HB.out.trans (hb5.mono HB.out.size))
  obtain ⟨a_r, b_r, c_r, d_r, rfl⟩ := o_r.shape
  replace o_r := Lib.hid o_r
  clear hb5
  obtain ⟨c_a0_0, c_a0_1⟩ := cells2 B_a0.out
  have l_a0 := lt_of B_a0.out
  clear o_t0
  clear o_t2
  go_wp2_with fail
  generalize hw6 : w5.alloc (.cells #[.slice a_r (feedNetworkR0 x0 x1 x2).progs.length b_r, .slice c_r (feedNetworkR0 x0 x1 x2).links.length d_r] 31) = w6
  have hb6 : Below w5.heap.size w5 w6 := by rw [← hw6]; exact (Below.refl _ _).al _
  have hn6 : w6.heap[w5.heap.size]? = some (.cells #[.slice a_r (feedNetworkR0 x0 x1 x2).progs.length b_r, .slice c_r (feedNetworkR0 x0 x1 x2).links.length d_r] 31) := by rw [← hw6]; exact hp1 _ _
  clear hw6
  have s6 := Lib.hid (show w5.heap.size ≤ w6.heap.size from hb6.size)
  clear c_a0_0 c_a0_1 l_a0
  replace B_a0 := Lib.hid (blk_in B_a0.out hb6)
  replace o_r := Lib.hid (o_r.out.below hb6)
  replace HB := Lib.hid (HB.out.trans (hb6.mono HB.out.size))
  have B_r := Lib.hid hn6
  have t6 := Lib.hid (lt_of hn6)
  clear hn6 hb6
  obtain ⟨c_a0_0, c_a0_1⟩ := cells2 B_a0.out
  have l_a0 := lt_of B_a0.out
  obtain ⟨c_r_0, c_r_1⟩ := cells2 B_r.out
  have l_r := lt_of B_r.out
  go_wp2_with fail
  go_at_call 14
  refine (toNet_h _ x0 _ (HA0.out.below HB.out) HS0.out).mono ?_
  rintro e w7 ⟨v_y0, rfl, o_y0, hb7⟩
  have s7 := Lib.hid (show w6.heap.size ≤ w7.heap.size from hb7.size)
  clear c_a0_0 c_a0_1 l_a0
  clear c_r_0 c_r_1 l_r
  replace B_a0 := Lib.hid (blk_in B_a0.out hb7)
  replace B_r := Lib.hid (blk_in B_r.out hb7)
  replace o_r := Lib.hid (o_r.out.below hb7)
  replace HB := Lib.hid (HB.out.trans (hb7.mono HB.out.size))
  obtain ⟨a_y0, k_y0, rfl⟩ := o_y0.shape
  replace o_y0 := Lib.hid o_y0
  clear hb7
  obtain ⟨c_a0_0, c_a0_1⟩ := cells2 B_a0.out
  have l_a0 := lt_of B_a0.out
  obtain ⟨c_r_0, c_r_1⟩ := cells2 B_r.out
  have l_r := lt_of B_r.out
  go_wp2_with fail
  generalize hw8 : w7.alloc (.cells #[.slice a_y0 (x0).progs.length (x0).progs.length, .slice k_y0 (x0).links.length (x0).links.length] 31) = w8
  have hb8 : Below w7.heap.size w7 w8 := by rw [← hw8]; exact (Below.refl _ _).al _
  have hn8 : w8.heap[w7.heap.size]? = some (.cells #[.slice a_y0 (x0).progs.length (x0).progs.length, .slice k_y0 (x0).links.length (x0).links.length] 31) := by rw [← hw8]; exact hp1 _ _
  clear hw8
  have s8 := Lib.hid (show w7.heap.size ≤ w8.heap.size from hb8.size)
  clear c_a0_0 c_a0_1 l_a0
  clear c_r_0 c_r_1 l_r
  replace B_a0 := Lib.hid (blk_in B_a0.out hb8)
  replace B_r := Lib.hid (blk_in B_r.out hb8)
  replace o_r := Lib.hid (o_r.out.below hb8)
  replace o_y0 := Lib.hid (o_y0.out.below hb8)
  replace HB := Lib.hid (HB.out.trans (hb8.mono HB.out.size))
  have B_y0 := Lib.hid hn8
  have t8 := Lib.hid (lt_of hn8)
  clear hn8 hb8
  obtain ⟨c_a0_0, c_a0_1⟩ := cells2 B_a0.out
  have l_a0 := lt_of B_a0.out
  obtain ⟨c_r_0, c_r_1⟩ := cells2 B_r.out
  have l_r := lt_of B_r.out
  obtain ⟨c_y0_0, c_y0_1⟩ := cells2 B_y0.out
  have l_y0 := lt_of B_y0.out
  go_wp2_with fail
  go_at_call 15
  refine (toInt_h _ x2 _ (HA2.out.below HB.out) HS2.out).mono ?_
  rintro e w9 ⟨v_y2, rfl, o_y2, hb9⟩
  have s9 := Lib.hid (show w8.heap.size ≤ w9.heap.size from hb9.size)
  clear c_a0_0 c_a0_1 l_a0
  clear c_r_0 c_r_1 l_r
  clear c_y0_0 c_y0_1 l_y0
  replace B_a0 := Lib.hid (blk_in B_a0.out hb9)
  replace B_r := Lib.hid (blk_in B_r.out hb9)
  replace B_y0 := Lib.hid (blk_in B_y0.out hb9)
  replace o_r := Lib.hid (o_r.out.below hb9)
  replace o_y0 := Lib.hid (o_y0.out.below hb9)
  replace HB := Lib.hid (HB.out.trans (hb9.mono HB.out.size))
  obtain ⟨a_y2, k_y2, rfl⟩ := o_y2.shape
  replace o_y2 := Lib.hid o_y2
  clear hb9
  obtain ⟨c_a0_0, c_a0_1⟩ := cells2 B_a0.out
  have l_a0 := lt_of B_a0.out
  obtain ⟨c_r_0, c_r_1⟩ := cells2 B_r.out
  have l_r := lt_of B_r.out
  obtain ⟨c_y0_0, c_y0_1⟩ := cells2 B_y0.out
  have l_y0 := lt_of B_y0.out
  go_wp2_with fail
  go_at_call 16
  refine (ifeed_any _ x0 x1 _ x2 _ o_y0.out.v h1 o_y2.out.v HS2.out).mono ?_
  rintro e w10 ⟨v_g0, rfl, o_g, hb10⟩
  have s10 := Lib.hid (show w9.heap.size ≤ w10.heap.size from hb10.size)
  clear c_a0_0 c_a0_1 l_a0
  clear c_r_0 c_r_1 l_r
  clear c_y0_0 c_y0_1 l_y0
  replace B_a0 := Lib.hid (blk_in B_a0.out hb10)
  replace B_r := Lib.hid (blk_in B_r.out hb10)
  replace B_y0 := Lib.hid (blk_in B_y0.out hb10)
  replace o_r := Lib.hid (o_r.out.below hb10)
  replace o_y0 := Lib.hid (o_y0.out.below hb10)
  replace o_y2 := Lib.hid (o_y2.out.below hb10)
  replace HB := Lib.hid (HB.out.trans (hb10.mono HB.out.size))
  obtain ⟨a_g, b_g, c_g, d_g, rfl⟩ := o_g.shape
  replace o_g := Lib.hid o_g
  clear hb10
  obtain ⟨c_a0_0, c_a0_1⟩ := cells2 B_a0.out
  have l_a0 := lt_of B_a0.out
  obtain ⟨c_r_0, c_r_1⟩ := cells2 B_r.out
  have l_r := lt_of B_r.out
  obtain ⟨c_y0_0, c_y0_1⟩ := cells2 B_y0.out
  have l_y0 := lt_of B_y0.out
  go_wp2_with fail
  generalize hw11 : w10.alloc (.cells #[.slice a_g (feedNetworkR0 x0 x1 x2).progs.length b_g, .slice c_g (feedNetworkR0 x0 x1 x2).links.length d_g] 31) = w11
  have hb11 : Below w10.heap.size w10 w11 := by rw [← hw11]; exact (Below.refl _ _).al _
  have hn11 : w11.heap[w10.heap.size]? = some (.cells #[.slice a_g (feedNetworkR0 x0 x1 x2).progs.length b_g, .slice c_g (feedNetworkR0 x0 x1 x2).links.length d_g] 31) := by rw [← hw11]; exact hp1 _ _
  clear hw11
  have s11 := Lib.hid (show w10.heap.size ≤ w11.heap.size from hb11.size)
  clear c_a0_0 c_a0_1 l_a0
  clear c_r_0 c_r_1 l_r
  clear c_y0_0 c_y0_1 l_y0
  replace B_a0 := Lib.hid (blk_in B_a0.out hb11)
  replace B_r := Lib.hid (blk_in B_r.out hb11)
  replace B_y0 := Lib.hid (blk_in B_y0.out hb11)
  replace o_r := Lib.hid (o_r.out.below hb11)
  replace o_y0 := Lib.hid (o_y0.out.below hb11)
  replace o_y2 := Lib.hid (o_y2.out.below hb11)
  replace o_g := Lib.hid (o_g.out.below hb11)
  replace HB := Lib.hid (HB.out.trans (hb11.mono HB.out.size))
  have B_g := Lib.hid hn11
  have t11 := Lib.hid (lt_of hn11)
  clear hn11 hb11
  obtain ⟨c_a0_0, c_a0_1⟩ := cells2 B_a0.out
  have l_a0 := lt_of B_a0.out
  obtain ⟨c_r_0, c_r_1⟩ := cells2 B_r.out
  have l_r := lt_of B_r.out
  obtain ⟨c_y0_0, c_y0_1⟩ := cells2 B_y0.out
  have l_y0 := lt_of B_y0.out
  obtain ⟨c_g_0, c_g_1⟩ := cells2 B_g.out
  have l_g := lt_of B_g.out
  go_at_call 17
  refine (eqNet_ok _ _ (feedNetworkR0 x0 x1 x2) _ o_g.out.v o_r.out.v).mono ?_
  rintro e w12 ⟨rfl, hb12⟩
  have s12 := Lib.hid (show w11.heap.size ≤ w12.heap.size from hb12.size)
  clear c_a0_0 c_a0_1 l_a0
  clear c_r_0 c_r_1 l_r
  clear c_y0_0 c_y0_1 l_y0
  clear c_g_0 c_g_1 l_g
  replace B_a0 := Lib.hid (blk_in B_a0.out hb12)
  replace B_r := Lib.hid (blk_in B_r.out hb12)
  replace B_y0 := Lib.hid (blk_in B_y0.out hb12)
  replace B_g := Lib.hid (blk_in B_g.out hb12)
  replace o_r := Lib.hid (o_r.out.below hb12)
  replace o_y0 := Lib.hid (o_y0.out.below hb12)
  replace o_y2 := Lib.hid (o_y2.out.below hb12)
  replace o_g := Lib.hid (o_g.out.below hb12)
  replace HB := Lib.hid (HB.out.trans (hb12.mono HB.out.size))
  clear hb12
  obtain ⟨c_a0_0, c_a0_1⟩ := cells2 B_a0.out
  have l_a0 := lt_of B_a0.out
  obtain ⟨c_r_0, c_r_1⟩ := cells2 B_r.out
  have l_r := lt_of B_r.out
  obtain ⟨c_y0_0, c_y0_1⟩ := cells2 B_y0.out
  have l_y0 := lt_of B_y0.out
  obtain ⟨c_g_0, c_g_1⟩ := cells2 B_g.out
  have l_g := lt_of B_g.out
  go_upto_region 13 with fail
  go_cut [60] from 122 (fun s wr => s = .bool false ∧ Hid (Below w12.heap.size w12 wr))
  case first =>
    go_region_held3 (fun w' => w'.cell? ⟨w.heap.size, 0, none⟩ = some (.slice pa (x0).progs.length pcap) ∧ w'.cell? ⟨w.heap.size, 1, none⟩ = some (.slice la (x0).links.length lcap) ∧ w'.cell? ⟨w7.heap.size, 0, none⟩ = some (.slice a_y0 (x0).progs.length (x0).progs.length) ∧ w'.cell? ⟨w7.heap.size, 1, none⟩ = some (.slice k_y0 (x0).links.length (x0).links.length)) (go_keep) (first | (go_at_call 14; refine (toNet_h _ x0 _ (HA0.out.below (HB.out.trans ((by first | with_reducible exact Below.refl _ _ | with_reducible exact (Below.refl _ _).drew : Below w12.heap.size w12 _).mono HB.out.size))) HS0.out).mono ?_; rintro e W7 ⟨v7, rfl, o7, hb7⟩; have hc7 := (show Below w12.heap.size w12 W7 by first | with_reducible exact hb7 | with_reducible exact cr_d hb7); have HC7 := Lib.hid hc7; have q_a0 := blk_in B_a0.out hc7; have q_y0 := blk_in B_y0.out hc7; obtain ⟨e7_a0_0, e7_a0_1⟩ := cells2 q_a0; have l7_a0 := lt_of q_a0; have Q7_a0 := Lib.hid q_a0; clear q_a0; obtain ⟨e7_y0_0, e7_y0_1⟩ := cells2 q_y0; have l7_y0 := lt_of q_y0; have Q7_y0 := Lib.hid q_y0; clear q_y0; have V7 := Lib.hid o7.v; have V6 := Lib.hid ((o_y0.out.below hc7).v); clear o7 hb7 hc7) | (go_at_call 17; refine (eqNet_ok _ _ x0 _ V6.out V7.out).mono ?_; rintro e W8 ⟨rfl, hb8⟩; have HC8 := Lib.hid (HC7.out.trans (hb8.mono HC7.out.size)); have q_a0 := blk_in Q7_a0.out hb8; have q_y0 := blk_in Q7_y0.out hb8; obtain ⟨e8_a0_0, e8_a0_1⟩ := cells2 q_a0; have l8_a0 := lt_of q_a0; have Q8_a0 := Lib.hid q_a0; clear q_a0; obtain ⟨e8_y0_0, e8_y0_1⟩ := cells2 q_y0; have l8_y0 := lt_of q_y0; have Q8_y0 := Lib.hid q_y0; clear q_y0; clear hb8))
    all_goals
      go_wp2_with fail
      go_meet
      case rel => exact ⟨rfl, HC8⟩
  rename World => w13
  obtain ⟨rfl, hb13⟩ := hcut
  replace hb13 := hb13.out
  have s13 := Lib.hid (show w12.heap.size ≤ w13.heap.size from hb13.size)
  clear c_a0_0 c_a0_1 l_a0
  clear c_r_0 c_r_1 l_r
  clear c_y0_0 c_y0_1 l_y0
  clear c_g_0 c_g_1 l_g
  replace B_a0 := Lib.hid (blk_in B_a0.out hb13)
  replace B_r := Lib.hid (blk_in B_r.out hb13)
  replace B_y0 := Lib.hid (blk_in B_y0.out hb13)
  replace B_g := Lib.hid (blk_in B_g.out hb13)
  replace o_r := Lib.hid (o_r.out.below hb13)
  replace o_y0 := Lib.hid (o_y0.out.below hb13)
  replace o_y2 := Lib.hid (o_y2.out.below hb13)
  replace o_g := Lib.hid (o_g.out.below hb13)
  replace HB := Lib.hid (HB.out.trans (hb13.mono HB.out.size))
  clear hb13
  obtain ⟨c_a0_0, c_a0_1⟩ := cells2 B_a0.out
  have l_a0 := lt_of B_a0.out
  obtain ⟨c_r_0, c_r_1⟩ := cells2 B_r.out
  have l_r := lt_of B_r.out
  obtain ⟨c_y0_0, c_y0_1⟩ := cells2 B_y0.out
  have l_y0 := lt_of B_y0.out
  obtain ⟨c_g_0, c_g_1⟩ := cells2 B_g.out
  have l_g := lt_of B_g.out
  go_wp2_with fail
  go_at_call 15
  refine (toInt_h _ x2 _ (HA2.out.below HB.out) HS2.out).mono ?_
  rintro e w14 ⟨v_z2, rfl, o_z2, hb14⟩
  have s14 := Lib.hid (show w13.heap.size ≤ w14.heap.size from hb14.size)
  clear c_a0_0 c_a0_1 l_a0
  clear c_r_0 c_r_1 l_r
  clear c_y0_0 c_y0_1 l_y0
  clear c_g_0 c_g_1 l_g
  replace B_a0 := Lib.hid (blk_in B_a0.out hb14)
  replace B_r := Lib.hid (blk_in B_r.out hb14)
  replace B_y0 := Lib.hid (blk_in B_y0.out hb14)
  replace B_g := Lib.hid (blk_in B_g.out hb14)
  replace o_r := Lib.hid (o_r.out.below hb14)
  replace o_y0 := Lib.hid (o_y0.out.below hb14)
  replace o_y2 := Lib.hid (o_y2.out.below hb14)
  replace o_g := Lib.hid (o_g.out.below hb14)
  replace HB := Lib.hid (HB.out.trans (hb14.mono HB.out.size))
  obtain ⟨a_z2, k_z2, rfl⟩ := o_z2.shape
  replace o_z2 := Lib.hid o_z2
  clear hb14
  obtain ⟨c_a0_0, c_a0_1⟩ := cells2 B_a0.out
  have l_a0 := lt_of B_a0.out
  obtain ⟨c_r_0, c_r_1⟩ := cells2 B_r.out
  have l_r := lt_of B_r.out
  obtain ⟨c_y0_0, c_y0_1⟩ := cells2 B_y0.out
  have l_y0 := lt_of B_y0.out
  obtain ⟨c_g_0, c_g_1⟩ := cells2 B_g.out
  have l_g := lt_of B_g.out
  go_wp2_with fail
  go_at_call 18
  refine (eqS_ok _ _ x2 _ o_y2.out.v o_z2.out.v).mono ?_
  rintro e w15 ⟨rfl, hb15⟩
  have s15 := Lib.hid (show w14.heap.size ≤ w15.heap.size from hb15.size)
  clear c_a0_0 c_a0_1 l_a0
  clear c_r_0 c_r_1 l_r
  clear c_y0_0 c_y0_1 l_y0
  clear c_g_0 c_g_1 l_g
  replace B_a0 := Lib.hid (blk_in B_a0.out hb15)
  replace B_r := Lib.hid (blk_in B_r.out hb15)
  replace B_y0 := Lib.hid (blk_in B_y0.out hb15)
  replace B_g := Lib.hid (blk_in B_g.out hb15)
  replace o_r := Lib.hid (o_r.out.below hb15)
  replace o_y0 := Lib.hid (o_y0.out.below hb15)
  replace o_y2 := Lib.hid (o_y2.out.below hb15)
  replace o_g := Lib.hid (o_g.out.below hb15)
  replace o_z2 := Lib.hid (o_z2.out.below hb15)
  replace HB := Lib.hid (HB.out.trans (hb15.mono HB.out.size))
  clear hb15
  obtain ⟨c_a0_0, c_a0_1⟩ := cells2 B_a0.out
  have l_a0 := lt_of B_a0.out
  obtain ⟨c_r_0, c_r_1⟩ := cells2 B_r.out
  have l_r := lt_of B_r.out
  obtain ⟨c_y0_0, c_y0_1⟩ := cells2 B_y0.out
  have l_y0 := lt_of B_y0.out
  obtain ⟨c_g_0, c_g_1⟩ := cells2 B_g.out
  have l_g := lt_of B_g.out
  clear o_z2
  go_wp2_with fail
  go_at_call 19
  refine (markNet_h (w6.heap.size) (w7.heap.size) _ x0 (1) _ o_y0.out (by omega) (by have := HS0.out; have := HS2.out; have := stN_le x0; omega)).mono ?_
  rintro e w16 ⟨rfl, hO16⟩
  have s16 := Lib.hid (show w15.heap.size ≤ w16.heap.size from hO16.size)
  clear c_a0_0 c_a0_1 l_a0
  clear c_r_0 c_r_1 l_r
  clear c_y0_0 c_y0_1 l_y0
  clear c_g_0 c_g_1 l_g
  replace B_a0 := Lib.hid (hO16.blk B_a0.out (by have := s1.out; have := t1.out; have := s2.out; have := s3.out; have := s4.out; have := s5.out; have := s6.out; have := t6.out; have := s7.out; have := s8.out; have := t8.out; have := s9.out; have := s10.out; have := s11.out; have := t11.out; have := s12.out; have := s13.out; have := s14.out; have := s15.out; omega))
  replace B_r := Lib.hid (hO16.blk B_r.out (by have := s1.out; have := t1.out; have := s2.out; have := s3.out; have := s4.out; have := s5.out; have := s6.out; have := t6.out; have := s7.out; have := s8.out; have := t8.out; have := s9.out; have := s10.out; have := s11.out; have := t11.out; have := s12.out; have := s13.out; have := s14.out; have := s15.out; omega))
  replace B_y0 := Lib.hid (hO16.blk B_y0.out (by have := s1.out; have := t1.out; have := s2.out; have := s3.out; have := s4.out; have := s5.out; have := s6.out; have := t6.out; have := s7.out; have := s8.out; have := t8.out; have := s9.out; have := s10.out; have := s11.out; have := t11.out; have := s12.out; have := s13.out; have := s14.out; have := s15.out; omega))
  replace B_g := Lib.hid (hO16.blk B_g.out (by have := s1.out; have := t1.out; have := s2.out; have := s3.out; have := s4.out; have := s5.out; have := s6.out; have := t6.out; have := s7.out; have := s8.out; have := t8.out; have := s9.out; have := s10.out; have := s11.out; have := t11.out; have := s12.out; have := s13.out; have := s14.out; have := s15.out; omega))
  replace o_r := Lib.hid (o_r.out.out hO16 (by have := s1.out; have := t1.out; have := s2.out; have := s3.out; have := s4.out; have := s5.out; have := s6.out; have := t6.out; have := s7.out; have := s8.out; have := t8.out; have := s9.out; have := s10.out; have := s11.out; have := t11.out; have := s12.out; have := s13.out; have := s14.out; have := s15.out; omega))
  replace o_y2 := Lib.hid (o_y2.out.out hO16 (by have := s1.out; have := t1.out; have := s2.out; have := s3.out; have := s4.out; have := s5.out; have := s6.out; have := t6.out; have := s7.out; have := s8.out; have := t8.out; have := s9.out; have := s10.out; have := s11.out; have := t11.out; have := s12.out; have := s13.out; have := s14.out; have := s15.out; omega))
  replace o_g := Lib.hid (o_g.out.out hO16 (by have := s1.out; have := t1.out; have := s2.out; have := s3.out; have := s4.out; have := s5.out; have := s6.out; have := t6.out; have := s7.out; have := s8.out; have := t8.out; have := s9.out; have := s10.out; have := s11.out; have := t11.out; have := s12.out; have := s13.out; have := s14.out; have := s15.out; omega))
  replace HB := Lib.hid (hO16.below HB.out HB.out.size (by have := s1.out; have := t1.out; have := s2.out; have := s3.out; have := s4.out; have := s5.out; have := s6.out; have := t6.out; have := s7.out; have := s8.out; have := t8.out; have := s9.out; have := s10.out; have := s11.out; have := t11.out; have := s12.out; have := s13.out; have := s14.out; have := s15.out; omega))
  clear hO16
  obtain ⟨c_a0_0, c_a0_1⟩ := cells2 B_a0.out
  have l_a0 := lt_of B_a0.out
  obtain ⟨c_r_0, c_r_1⟩ := cells2 B_r.out
  have l_r := lt_of B_r.out
  obtain ⟨c_y0_0, c_y0_1⟩ := cells2 B_y0.out
  have l_y0 := lt_of B_y0.out
  obtain ⟨c_g_0, c_g_1⟩ := cells2 B_g.out
  have l_g := lt_of B_g.out
  clear o_y0
  go_wp2_with fail
  go_at_call 20
  refine (mark_h (w8.heap.size) (w9.heap.size) _ x2 (1 + ((stN x0 : Nat) : Int)) _ o_y2.out (by omega) (by have := HS0.out; have := HS2.out; have := stN_le x0; omega)).mono ?_
  rintro e w17 ⟨rfl, _, hO17⟩
  have s17 := Lib.hid (show w16.heap.size ≤ w17.heap.size from hO17.size)
  clear c_a0_0 c_a0_1 l_a0
  clear c_r_0 c_r_1 l_r
  clear c_y0_0 c_y0_1 l_y0
  clear c_g_0 c_g_1 l_g
  replace B_a0 := Lib.hid (hO17.blk B_a0.out (by have := s1.out; have := t1.out; have := s2.out; have := s3.out; have := s4.out; have := s5.out; have := s6.out; have := t6.out; have := s7.out; have := s8.out; have := t8.out; have := s9.out; have := s10.out; have := s11.out; have := t11.out; have := s12.out; have := s13.out; have := s14.out; have := s15.out; have := s16.out; omega))
  replace B_r := Lib.hid (hO17.blk B_r.out (by have := s1.out; have := t1.out; have := s2.out; have := s3.out; have := s4.out; have := s5.out; have := s6.out; have := t6.out; have := s7.out; have := s8.out; have := t8.out; have := s9.out; have := s10.out; have := s11.out; have := t11.out; have := s12.out; have := s13.out; have := s14.out; have := s15.out; have := s16.out; omega))
  replace B_y0 := Lib.hid (hO17.blk B_y0.out (by have := s1.out; have := t1.out; have := s2.out; have := s3.out; have := s4.out; have := s5.out; have := s6.out; have := t6.out; have := s7.out; have := s8.out; have := t8.out; have := s9.out; have := s10.out; have := s11.out; have := t11.out; have := s12.out; have := s13.out; have := s14.out; have := s15.out; have := s16.out; omega))
  replace B_g := Lib.hid (hO17.blk B_g.out (by have := s1.out; have := t1.out; have := s2.out; have := s3.out; have := s4.out; have := s5.out; have := s6.out; have := t6.out; have := s7.out; have := s8.out; have := t8.out; have := s9.out; have := s10.out; have := s11.out; have := t11.out; have := s12.out; have := s13.out; have := s14.out; have := s15.out; have := s16.out; omega))
  replace o_r := Lib.hid (o_r.out.out hO17 (by have := s1.out; have := t1.out; have := s2.out; have := s3.out; have := s4.out; have := s5.out; have := s6.out; have := t6.out; have := s7.out; have := s8.out; have := t8.out; have := s9.out; have := s10.out; have := s11.out; have := t11.out; have := s12.out; have := s13.out; have := s14.out; have := s15.out; have := s16.out; omega))
  replace o_g := Lib.hid (o_g.out.out hO17 (by have := s1.out; have := t1.out; have := s2.out; have := s3.out; have := s4.out; have := s5.out; have := s6.out; have := t6.out; have := s7.out; have := s8.out; have := t8.out; have := s9.out; have := s10.out; have := s11.out; have := t11.out; have := s12.out; have := s13.out; have := s14.out; have := s15.out; have := s16.out; omega))
  replace HB := Lib.hid (hO17.below HB.out HB.out.size (by have := s1.out; have := t1.out; have := s2.out; have := s3.out; have := s4.out; have := s5.out; have := s6.out; have := t6.out; have := s7.out; have := s8.out; have := t8.out; have := s9.out; have := s10.out; have := s11.out; have := t11.out; have := s12.out; have := s13.out; have := s14.out; have := s15.out; have := s16.out; omega))
  clear hO17
  obtain ⟨c_a0_0, c_a0_1⟩ := cells2 B_a0.out
  have l_a0 := lt_of B_a0.out
  obtain ⟨c_r_0, c_r_1⟩ := cells2 B_r.out
  have l_r := lt_of B_r.out
  obtain ⟨c_y0_0, c_y0_1⟩ := cells2 B_y0.out
  have l_y0 := lt_of B_y0.out
  obtain ⟨c_g_0, c_g_1⟩ := cells2 B_g.out
  have l_g := lt_of B_g.out
  clear o_y2
  have dk : decide (1 + ((stN x0 : Nat) : Int) + (((x2).length : Nat) : Int) < 0) = false := decide_eq_false (by omega)
  go_wp2_with fail
  go_at_call 17
  refine (eqNet_ok _ _ (feedNetworkR0 x0 x1 x2) _ o_g.out.v o_r.out.v).mono ?_
  rintro e w18 ⟨rfl, hb18⟩
  have s18 := Lib.hid (show w17.heap.size ≤ w18.heap.size from hb18.size)
  clear c_a0_0 c_a0_1 l_a0
  clear c_r_0 c_r_1 l_r
  clear c_y0_0 c_y0_1 l_y0
  clear c_g_0 c_g_1 l_g
  replace B_a0 := Lib.hid (blk_in B_a0.out hb18)
  replace B_r := Lib.hid (blk_in B_r.out hb18)
  replace B_y0 := Lib.hid (blk_in B_y0.out hb18)
  replace B_g := Lib.hid (blk_in B_g.out hb18)
  replace o_r := Lib.hid (o_r.out.below hb18)
  replace o_g := Lib.hid (o_g.out.below hb18)
  replace HB := Lib.hid (HB.out.trans (hb18.mono HB.out.size))
  clear hb18
  obtain ⟨c_a0_0, c_a0_1⟩ := cells2 B_a0.out
  have l_a0 := lt_of B_a0.out
  obtain ⟨c_r_0, c_r_1⟩ := cells2 B_r.out
  have l_r := lt_of B_r.out
  obtain ⟨c_y0_0, c_y0_1⟩ := cells2 B_y0.out
  have l_y0 := lt_of B_y0.out
  obtain ⟨c_g_0, c_g_1⟩ := cells2 B_g.out
  have l_g := lt_of B_g.out
  go_wp2_with fail
  go_at_call 19
  refine (markNet_r (w9.heap.size) (w10.heap.size) _ (feedNetworkR0 x0 x1 x2) (1) _ o_g.out (by have := s1.out; have := t1.out; have := s2.out; have := s3.out; have := s4.out; have := s5.out; have := s6.out; have := t6.out; have := s7.out; have := s8.out; have := t8.out; have := s9.out; have := s10.out; have := s11.out; have := t11.out; have := s12.out; have := s13.out; have := s14.out; have := s15.out; have := s16.out; have := s17.out; have := s18.out; omega) (by omega) (by have := BD.out; omega)).mono ?_
  rintro e w19 ⟨rfl, m_g, hO19⟩
  have s19 := Lib.hid (show w18.heap.size ≤ w19.heap.size from hO19.size)
  clear c_a0_0 c_a0_1 l_a0
  clear c_r_0 c_r_1 l_r
  clear c_y0_0 c_y0_1 l_y0
  clear c_g_0 c_g_1 l_g
  replace B_a0 := Lib.hid (hO19.blk B_a0.out (by have := s1.out; have := t1.out; have := s2.out; have := s3.out; have := s4.out; have := s5.out; have := s6.out; have := t6.out; have := s7.out; have := s8.out; have := t8.out; have := s9.out; have := s10.out; have := s11.out; have := t11.out; have := s12.out; have := s13.out; have := s14.out; have := s15.out; have := s16.out; have := s17.out; have := s18.out; omega))
  replace B_r := Lib.hid (hO19.blk B_r.out (by have := s1.out; have := t1.out; have := s2.out; have := s3.out; have := s4.out; have := s5.out; have := s6.out; have := t6.out; have := s7.out; have := s8.out; have := t8.out; have := s9.out; have := s10.out; have := s11.out; have := t11.out; have := s12.out; have := s13.out; have := s14.out; have := s15.out; have := s16.out; have := s17.out; have := s18.out; omega))
  replace B_y0 := Lib.hid (hO19.blk B_y0.out (by have := s1.out; have := t1.out; have := s2.out; have := s3.out; have := s4.out; have := s5.out; have := s6.out; have := t6.out; have := s7.out; have := s8.out; have := t8.out; have := s9.out; have := s10.out; have := s11.out; have := t11.out; have := s12.out; have := s13.out; have := s14.out; have := s15.out; have := s16.out; have := s17.out; have := s18.out; omega))
  replace B_g := Lib.hid (hO19.blk B_g.out (by have := s1.out; have := t1.out; have := s2.out; have := s3.out; have := s4.out; have := s5.out; have := s6.out; have := t6.out; have := s7.out; have := s8.out; have := t8.out; have := s9.out; have := s10.out; have := s11.out; have := t11.out; have := s12.out; have := s13.out; have := s14.out; have := s15.out; have := s16.out; have := s17.out; have := s18.out; omega))
  replace o_r := Lib.hid (o_r.out.out hO19 (by have := s1.out; have := t1.out; have := s2.out; have := s3.out; have := s4.out; have := s5.out; have := s6.out; have := t6.out; have := s7.out; have := s8.out; have := t8.out; have := s9.out; have := s10.out; have := s11.out; have := t11.out; have := s12.out; have := s13.out; have := s14.out; have := s15.out; have := s16.out; have := s17.out; have := s18.out; omega))
  replace HB := Lib.hid (hO19.below HB.out HB.out.size (by have := s1.out; have := t1.out; have := s2.out; have := s3.out; have := s4.out; have := s5.out; have := s6.out; have := t6.out; have := s7.out; have := s8.out; have := t8.out; have := s9.out; have := s10.out; have := s11.out; have := t11.out; have := s12.out; have := s13.out; have := s14.out; have := s15.out; have := s16.out; have := s17.out; have := s18.out; omega))
  clear o_g
  have o_g := Lib.hid m_g
  clear m_g
  clear hO19
  obtain ⟨c_a0_0, c_a0_1⟩ := cells2 B_a0.out
  have l_a0 := lt_of B_a0.out
  obtain ⟨c_r_0, c_r_1⟩ := cells2 B_r.out
  have l_r := lt_of B_r.out
  obtain ⟨c_y0_0, c_y0_1⟩ := cells2 B_y0.out
  have l_y0 := lt_of B_y0.out
  obtain ⟨c_g_0, c_g_1⟩ := cells2 B_g.out
  have l_g := lt_of B_g.out
  have dm0 : decide (1 + (((stN (feedNetworkR0 x0 x1 x2) : Nat) : Int)) < 0) = false := decide_eq_false (by omega)
  go_wp2_with fail
  go_at_call 21
  refine (heldNet_r _ (feedNetworkR0 x0 x1 x2) (1) _ o_g.out.v (by omega) (by have := BD.out; omega)).mono ?_
  rintro e w20 ⟨rfl, hb20⟩
  have s20 := Lib.hid (show w19.heap.size ≤ w20.heap.size from hb20.size)
  clear c_a0_0 c_a0_1 l_a0
  clear c_r_0 c_r_1 l_r
  clear c_y0_0 c_y0_1 l_y0
  clear c_g_0 c_g_1 l_g
  replace B_a0 := Lib.hid (blk_in B_a0.out hb20)
  replace B_r := Lib.hid (blk_in B_r.out hb20)
  replace B_y0 := Lib.hid (blk_in B_y0.out hb20)
  replace B_g := Lib.hid (blk_in B_g.out hb20)
  replace o_r := Lib.hid (o_r.out.below hb20)
  replace o_g := Lib.hid (o_g.out.below hb20)
  replace HB := Lib.hid (HB.out.trans (hb20.mono HB.out.size))
  clear hb20
  obtain ⟨c_a0_0, c_a0_1⟩ := cells2 B_a0.out
  have l_a0 := lt_of B_a0.out
  obtain ⟨c_r_0, c_r_1⟩ := cells2 B_r.out
  have l_r := lt_of B_r.out
  obtain ⟨c_y0_0, c_y0_1⟩ := cells2 B_y0.out
  have l_y0 := lt_of B_y0.out
  obtain ⟨c_g_0, c_g_1⟩ := cells2 B_g.out
  have l_g := lt_of B_g.out
  go_wp2_with fail
  go_at_call 14
  refine (toNet_h _ x0 _ (HA0.out.below HB.out) HS0.out).mono ?_
  rintro e w21 ⟨v_q0, rfl, o_q0, hb21⟩
  have s21 := Lib.hid (show w20.heap.size ≤ w21.heap.size from hb21.size)
  clear c_a0_0 c_a0_1 l_a0
  clear c_r_0 c_r_1 l_r
  clear c_y0_0 c_y0_1 l_y0
  clear c_g_0 c_g_1 l_g
  replace B_a0 := Lib.hid (blk_in B_a0.out hb21)
  replace B_r := Lib.hid (blk_in B_r.out hb21)
  replace B_y0 := Lib.hid (blk_in B_y0.out hb21)
  replace B_g := Lib.hid (blk_in B_g.out hb21)
  replace o_r := Lib.hid (o_r.out.below hb21)
  replace o_g := Lib.hid (o_g.out.below hb21)
  replace HB := Lib.hid (HB.out.trans (hb21.mono HB.out.size))
  obtain ⟨a_q0, k_q0, rfl⟩ := o_q0.shape
  replace o_q0 := Lib.hid o_q0
  clear hb21
  obtain ⟨c_a0_0, c_a0_1⟩ := cells2 B_a0.out
  have l_a0 := lt_of B_a0.out
  obtain ⟨c_r_0, c_r_1⟩ := cells2 B_r.out
  have l_r := lt_of B_r.out
  obtain ⟨c_y0_0, c_y0_1⟩ := cells2 B_y0.out
  have l_y0 := lt_of B_y0.out
  obtain ⟨c_g_0, c_g_1⟩ := cells2 B_g.out
  have l_g := lt_of B_g.out
  go_wp2_with fail
  go_at_call 15
  refine (toInt_h _ x2 _ (HA2.out.below HB.out) HS2.out).mono ?_
  rintro e w22 ⟨v_q2, rfl, o_q2, hb22⟩
  have s22 := Lib.hid (show w21.heap.size ≤ w22.heap.size from hb22.size)
  clear c_a0_0 c_a0_1 l_a0
  clear c_r_0 c_r_1 l_r
  clear c_y0_0 c_y0_1 l_y0
  clear c_g_0 c_g_1 l_g
  replace B_a0 := Lib.hid (blk_in B_a0.out hb22)
  replace B_r := Lib.hid (blk_in B_r.out hb22)
  replace B_y0 := Lib.hid (blk_in B_y0.out hb22)
  replace B_g := Lib.hid (blk_in B_g.out hb22)
  replace o_r := Lib.hid (o_r.out.below hb22)
  replace o_g := Lib.hid (o_g.out.below hb22)
  replace o_q0 := Lib.hid (o_q0.out.below hb22)
  replace HB := Lib.hid (HB.out.trans (hb22.mono HB.out.size))
  obtain ⟨a_q2, k_q2, rfl⟩ := o_q2.shape
  replace o_q2 := Lib.hid o_q2
  clear hb22
  obtain ⟨c_a0_0, c_a0_1⟩ := cells2 B_a0.out
  have l_a0 := lt_of B_a0.out
  obtain ⟨c_r_0, c_r_1⟩ := cells2 B_r.out
  have l_r := lt_of B_r.out
  obtain ⟨c_y0_0, c_y0_1⟩ := cells2 B_y0.out
  have l_y0 := lt_of B_y0.out
  obtain ⟨c_g_0, c_g_1⟩ := cells2 B_g.out
  have l_g := lt_of B_g.out
  go_wp2_with fail
  go_at_call 16
  refine (ifeed_any _ x0 x1 _ x2 _ o_q0.out.v h1 o_q2.out.v HS2.out).mono ?_
  rintro e w23 ⟨v_u0, rfl, o_u, hb23⟩
  have s23 := Lib.hid (show w22.heap.size ≤ w23.heap.size from hb23.size)
  clear c_a0_0 c_a0_1 l_a0
  clear c_r_0 c_r_1 l_r
  clear c_y0_0 c_y0_1 l_y0
  clear c_g_0 c_g_1 l_g
  replace B_a0 := Lib.hid (blk_in B_a0.out hb23)
  replace B_r := Lib.hid (blk_in B_r.out hb23)
  replace B_y0 := Lib.hid (blk_in B_y0.out hb23)
  replace B_g := Lib.hid (blk_in B_g.out hb23)
  replace o_r := Lib.hid (o_r.out.below hb23)
  replace o_g := Lib.hid (o_g.out.below hb23)
  replace o_q0 := Lib.hid (o_q0.out.below hb23)
  replace o_q2 := Lib.hid (o_q2.out.below hb23)
  replace HB := Lib.hid (HB.out.trans (hb23.mono HB.out.size))
  obtain ⟨a_u, b_u, c_u, d_u, rfl⟩ := o_u.shape
  replace o_u := Lib.hid o_u
  clear hb23
  obtain ⟨c_a0_0, c_a0_1⟩ := cells2 B_a0.out
  have l_a0 := lt_of B_a0.out
  obtain ⟨c_r_0, c_r_1⟩ := cells2 B_r.out
  have l_r := lt_of B_r.out
  obtain ⟨c_y0_0, c_y0_1⟩ := cells2 B_y0.out
  have l_y0 := lt_of B_y0.out
  obtain ⟨c_g_0, c_g_1⟩ := cells2 B_g.out
  have l_g := lt_of B_g.out
  clear o_q0
  clear o_q2
  go_wp2_with fail
  generalize hw24 : w23.alloc (.cells #[.slice a_u (feedNetworkR0 x0 x1 x2).progs.length b_u, .slice c_u (feedNetworkR0 x0 x1 x2).links.length d_u] 31) = w24
  have hb24 : Below w23.heap.size w23 w24 := by rw [← hw24]; exact (Below.refl _ _).al _
  have hn24 : w24.heap[w23.heap.size]? = some (.cells #[.slice a_u (feedNetworkR0 x0 x1 x2).progs.length b_u, .slice c_u (feedNetworkR0 x0 x1 x2).links.length d_u] 31) := by rw [← hw24]; exact hp1 _ _
  clear hw24
  have s24 := Lib.hid (show w23.heap.size ≤ w24.heap.size from hb24.size)
  clear c_a0_0 c_a0_1 l_a0
  clear c_r_0 c_r_1 l_r
  clear c_y0_0 c_y0_1 l_y0
  clear c_g_0 c_g_1 l_g
  replace B_a0 := Lib.hid (blk_in B_a0.out hb24)
  replace B_r := Lib.hid (blk_in B_r.out hb24)
  replace B_y0 := Lib.hid (blk_in B_y0.out hb24)
  replace B_g := Lib.hid (blk_in B_g.out hb24)
  replace o_r := Lib.hid (o_r.out.below hb24)
  replace o_g := Lib.hid (o_g.out.below hb24)
  replace o_u := Lib.hid (o_u.out.below hb24)
  replace HB := Lib.hid (HB.out.trans (hb24.mono HB.out.size))
  have B_u := Lib.hid hn24
  have t24 := Lib.hid (lt_of hn24)
  clear hn24 hb24
  obtain ⟨c_a0_0, c_a0_1⟩ := cells2 B_a0.out
  have l_a0 := lt_of B_a0.out
  obtain ⟨c_r_0, c_r_1⟩ := cells2 B_r.out
  have l_r := lt_of B_r.out
  obtain ⟨c_y0_0, c_y0_1⟩ := cells2 B_y0.out
  have l_y0 := lt_of B_y0.out
  obtain ⟨c_g_0, c_g_1⟩ := cells2 B_g.out
  have l_g := lt_of B_g.out
  obtain ⟨c_u_0, c_u_1⟩ := cells2 B_u.out
  have l_u := lt_of B_u.out
  go_at_call 17
  refine (eqNet_ok _ _ (feedNetworkR0 x0 x1 x2) _ o_u.out.v o_r.out.v).mono ?_
  rintro e w25 ⟨rfl, hb25⟩
  have s25 := Lib.hid (show w24.heap.size ≤ w25.heap.size from hb25.size)
  clear c_a0_0 c_a0_1 l_a0
  clear c_r_0 c_r_1 l_r
  clear c_y0_0 c_y0_1 l_y0
  clear c_g_0 c_g_1 l_g
  clear c_u_0 c_u_1 l_u
  replace B_a0 := Lib.hid (blk_in B_a0.out hb25)
  replace B_r := Lib.hid (blk_in B_r.out hb25)
  replace B_y0 := Lib.hid (blk_in B_y0.out hb25)
  replace B_g := Lib.hid (blk_in B_g.out hb25)
  replace B_u := Lib.hid (blk_in B_u.out hb25)
  replace o_r := Lib.hid (o_r.out.below hb25)
  replace o_g := Lib.hid (o_g.out.below hb25)
  replace o_u := Lib.hid (o_u.out.below hb25)
  replace HB := Lib.hid (HB.out.trans (hb25.mono HB.out.size))
  clear hb25
  obtain ⟨c_a0_0, c_a0_1⟩ := cells2 B_a0.out
  have l_a0 := lt_of B_a0.out
  obtain ⟨c_r_0, c_r_1⟩ := cells2 B_r.out
  have l_r := lt_of B_r.out
  obtain ⟨c_y0_0, c_y0_1⟩ := cells2 B_y0.out
  have l_y0 := lt_of B_y0.out
  obtain ⟨c_g_0, c_g_1⟩ := cells2 B_g.out
  have l_g := lt_of B_g.out
  obtain ⟨c_u_0, c_u_1⟩ := cells2 B_u.out
  have l_u := lt_of B_u.out
  go_wp2_with fail
  go_at_call 21
  refine (heldNet_r _ (feedNetworkR0 x0 x1 x2) (1) _ o_g.out.v (by omega) (by have := BD.out; omega)).mono ?_
  rintro e w26 ⟨rfl, hb26⟩
  have s26 := Lib.hid (show w25.heap.size ≤ w26.heap.size from hb26.size)
  clear c_a0_0 c_a0_1 l_a0
  clear c_r_0 c_r_1 l_r
  clear c_y0_0 c_y0_1 l_y0
  clear c_g_0 c_g_1 l_g
  clear c_u_0 c_u_1 l_u
  replace B_a0 := Lib.hid (blk_in B_a0.out hb26)
  replace B_r := Lib.hid (blk_in B_r.out hb26)
  replace B_y0 := Lib.hid (blk_in B_y0.out hb26)
  replace B_g := Lib.hid (blk_in B_g.out hb26)
  replace B_u := Lib.hid (blk_in B_u.out hb26)
  replace o_r := Lib.hid (o_r.out.below hb26)
  replace o_g := Lib.hid (o_g.out.below hb26)
  replace o_u := Lib.hid (o_u.out.below hb26)
  replace HB := Lib.hid (HB.out.trans (hb26.mono HB.out.size))
  clear hb26
  obtain ⟨c_a0_0, c_a0_1⟩ := cells2 B_a0.out
  have l_a0 := lt_of B_a0.out
  obtain ⟨c_r_0, c_r_1⟩ := cells2 B_r.out
  have l_r := lt_of B_r.out
  obtain ⟨c_y0_0, c_y0_1⟩ := cells2 B_y0.out
  have l_y0 := lt_of B_y0.out
  obtain ⟨c_g_0, c_g_1⟩ := cells2 B_g.out
  have l_g := lt_of B_g.out
  obtain ⟨c_u_0, c_u_1⟩ := cells2 B_u.out
  have l_u := lt_of B_u.out
  go_wp2_with fail
  go_ret
  exact ⟨rfl, HB.out⟩

end Go.Proofs.Ytkeoefbkeommhaa
