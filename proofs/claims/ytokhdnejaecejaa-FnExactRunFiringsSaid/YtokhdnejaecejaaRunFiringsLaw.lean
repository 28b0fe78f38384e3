/-
  The walk of the law FnExactRunFirings: it answers true and changes nothing that was there.
-/
import Derived.Test.YtokhdnejaecejaaRfS
import Derived.Test.YtokhdnejaecejaaLawKit
import Derived.Deep.Cut
import Derived.Deep.RegionHeld3
namespace Go.Proofs.Ytokhdnejaecejaa
open Go.RowKit

set_option maxRecDepth 100000 in
set_option maxHeartbeats 40000000 in
theorem fnExactRunFirings_walk (v0 : Value) (x0 : Grf) (v1 : Value) (x1 : List Int) (w : World) (h0 : GrV w v0 x0) (h1 : Sl w v1 x1) :
    Calls Try.prog 5 #[v0, v1] w fun e w' => e = .returned (.bool true) ∧ Below w.heap.size w w' := by
  have HA0 := Lib.hid h0
  obtain ⟨ga, gb, rfl⟩ := h0.shape
  clear h0
  have HA1 := Lib.hid h1
  obtain ⟨a1, k1, rfl⟩ := h1.shape
  clear h1
  have BD := Lib.hid (run_bd x0 x1)
  have HB := Lib.hid (Below.refl w.heap.size w)
  go_enter Try.func5, Try.ntmps5
  by_cases z1 : (x1).length ≤ 1048576
  case neg =>
    have d : decide ((((x1).length : Nat) : Int) > 1048576) = true := decide_eq_true (by omega)
    have d' : decide (1048576 < (((x1).length : Nat) : Int)) = true := decide_eq_true (by omega)
    go_wp2_with fail
    go_ret
    exact ⟨rfl, HB.out.al _⟩
  have d1s : decide ((((x1).length : Nat) : Int) > 1048576) = false := decide_eq_false (by omega)
  have d1t : decide (1048576 < (((x1).length : Nat) : Int)) = false := decide_eq_false (by omega)
  have HS1 := Lib.hid z1
  clear z1
  have HL0 := Lib.hid (show (0 : Int) ≤ 1048576 ∧ (1048576 : Int) ≤ 1048576 by omega)
  go_wp2_with fail
  generalize hw1 : w.alloc (.cells #[.int .i64 (x0).nodes, .slice ga (x0).edges.length gb] 24) = w1
  have hb1 : Below w.heap.size w w1 := by rw [← hw1]; exact (Below.refl _ _).al _
  have hn1 : w1.heap[w.heap.size]? = some (.cells #[.int .i64 (x0).nodes, .slice ga (x0).edges.length gb] 24) := by rw [← hw1]; exact hp1 _ _
  clear hw1
  have s1 := Lib.hid (show w.heap.size ≤ w1.heap.size from hb1.size)
  replace HB := Lib.hid (HB.out.trans (hb1.mono HB.out.size))
  have B_a0 := Lib.hid hn1
  have t1 := Lib.hid (lt_of hn1)
  clear hn1 hb1
  obtain ⟨c_a0_0, c_a0_1⟩ := cells2 B_a0.out
  have l_a0 := lt_of B_a0.out
  go_at_call 14
  by_cases z0 : (((x0).edges.length : Nat) : Int) ≤ 1048576
  case neg =>
    refine (szGr_any _ x0 (1048576) _ (HA0.out.below HB.out) HL0.out).mono ?_
    rintro e wz ⟨rfl, hb⟩
    rw [if_neg z0]
    go_wp2_with fail
    go_ret
    exact ⟨rfl, HB.out.trans (hb.mono HB.out.size)⟩
  refine (szGr_any _ x0 (1048576) _ (HA0.out.below HB.out) HL0.out).mono ?_
  rintro e w2 ⟨rfl, hb2⟩
  rw [if_pos z0]
  obtain ⟨l1, hl⟩ : ∃ l : Int, l = 1048576 - (((x0).edges.length : Nat) : Int) := ⟨_, rfl⟩
  rw [← hl]
  have HL1 := Lib.hid (show 0 ≤ l1 ∧ l1 ≤ 1048576 by have := HL0.out; omega)
  have HS0 := Lib.hid (show (x0).edges.length ≤ 1048576 by have := HL0.out; omega)
  have d1 : decide (l1 < 0) = false := decide_eq_false (by have := HL1.out; omega)
  clear hl z0
  have s2 := Lib.hid (show w1.heap.size ≤ w2.heap.size from hb2.size)
  clear c_a0_0 c_a0_1 l_a0
  replace B_a0 := Lib.hid (blk_in B_a0.out hb2)
  replace HB := Lib.hid (HB.out.trans (hb2.mono HB.out.size))
  clear hb2
  obtain ⟨c_a0_0, c_a0_1⟩ := cells2 B_a0.out
  have l_a0 := lt_of B_a0.out
  go_wp2_with fail
  go_at_call 16
  refine (toGr_h _ x0 _ (HA0.out.below HB.out) HS0.out).mono ?_
  rintro e w3 ⟨v_t0, rfl, o_t0, hb3⟩
  have s3 := Lib.hid (show w2.heap.size ≤ w3.heap.size from hb3.size)
  clear c_a0_0 c_a0_1 l_a0
  replace B_a0 := Lib.hid (blk_in B_a0.out hb3)
  replace HB := Lib.hid (HB.out.trans (hb3.mono HB.out.size))
  obtain ⟨a_t0, k_t0, rfl⟩ := o_t0.shape
  replace o_t0 := Lib.hid o_t0
  clear hb3
  obtain ⟨c_a0_0, c_a0_1⟩ := cells2 B_a0.out
  have l_a0 := lt_of B_a0.out
  go_wp2_with fail
  go_at_call 20
  refine (toInt_h _ x1 _ (HA1.out.below HB.out) HS1.out).mono ?_
  rintro e w4 ⟨v_t1, rfl, o_t1, hb4⟩
  have s4 := Lib.hid (show w3.heap.size ≤ w4.heap.size from hb4.size)
  clear c_a0_0 c_a0_1 l_a0
  replace B_a0 := Lib.hid (blk_in B_a0.out hb4)
  replace o_t0 := Lib.hid (o_t0.out.below hb4)
  replace HB := Lib.hid (HB.out.trans (hb4.mono HB.out.size))
  obtain ⟨a_t1, k_t1, rfl⟩ := o_t1.shape
  replace o_t1 := Lib.hid o_t1
  clear hb4
  obtain ⟨c_a0_0, c_a0_1⟩ := cells2 B_a0.out
  have l_a0 := lt_of B_a0.out
  go_wp2_with fail
  go_at_call 26
  refine (srun_w _ x0 _ x1 _ o_t0.out.v o_t1.out.v).mono ?_
  rintro e w5 ⟨v_r0, v_r1, rfl, o_r, hb5⟩
  have s5 := Lib.hid (show w4.heap.size ≤ w5.heap.size from hb5.size)
  clear c_a0_0 c_a0_1 l_a0
  replace B_a0 := Lib.hid (blk_in B_a0.out hb5)
  replace o_t0 := Lib.hid (o_t0.out.below hb5)
  replace o_t1 := Lib.hid (o_t1.out.below hb5)
  replace HB := Lib.hid (HB.out.trans (hb5.mono HB.out.size))
  obtain ⟨⟨a_r0, k_r0, rfl⟩, ⟨a_r1, k_r1, rfl⟩⟩ := o_r.shape
  replace o_r := Lib.hid o_r
  clear hb5
  obtain ⟨c_a0_0, c_a0_1⟩ := cells2 B_a0.out
  have l_a0 := lt_of B_a0.out
  clear o_t0
  clear o_t1
  go_wp2_with fail
  go_at_call 16
  refine (toGr_h _ x0 _ (HA0.out.below HB.out) HS0.out).mono ?_
  rintro e w6 ⟨v_y0, rfl, o_y0, hb6⟩
  have s6 := Lib.hid (show w5.heap.size ≤ w6.heap.size from hb6.size)
  clear c_a0_0 c_a0_1 l_a0
  replace B_a0 := Lib.hid (blk_in B_a0.out hb6)
  replace o_r := Lib.hid (o_r.out.below hb6)
  replace HB := Lib.hid (HB.out.trans (hb6.mono HB.out.size))
  obtain ⟨a_y0, k_y0, rfl⟩ := o_y0.shape
  replace o_y0 := Lib.hid o_y0
  clear hb6
  obtain ⟨c_a0_0, c_a0_1⟩ := cells2 B_a0.out
  have l_a0 := lt_of B_a0.out
  go_wp2_with fail
  generalize hw7 : w6.alloc (.cells #[.int .i64 (x0).nodes, .slice a_y0 (x0).edges.length k_y0] 29) = w7
  have hb7 : Below w6.heap.size w6 w7 := by rw [← hw7]; exact (Below.refl _ _).al _
  have hn7 : w7.heap[w6.heap.size]? = some (.cells #[.int .i64 (x0).nodes, .slice a_y0 (x0).edges.length k_y0] 29) := by rw [← hw7]; exact hp1 _ _
  clear hw7
  have s7 := Lib.hid (show w6.heap.size ≤ w7.heap.size from hb7.size)
  clear c_a0_0 c_a0_1 l_a0
  replace B_a0 := Lib.hid (blk_in B_a0.out hb7)
  replace o_r := Lib.hid (o_r.out.below hb7)
  replace o_y0 := Lib.hid (o_y0.out.below hb7)
  replace HB := Lib.hid (HB.out.trans (hb7.mono HB.out.size))
  have B_y0 := Lib.hid hn7
  have t7 := Lib.hid (lt_of hn7)
  clear hn7 hb7
  obtain ⟨c_a0_0, c_a0_1⟩ := cells2 B_a0.out
  have l_a0 := lt_of B_a0.out
  obtain ⟨c_y0_0, c_y0_1⟩ := cells2 B_y0.out
  have l_y0 := lt_of B_y0.out
  go_wp2_with fail
  go_at_call 20
  refine (toInt_h _ x1 _ (HA1.out.below HB.out) HS1.out).mono ?_
  rintro e w8 ⟨v_y1, rfl, o_y1, hb8⟩
  have s8 := Lib.hid (show w7.heap.size ≤ w8.heap.size from hb8.size)
  clear c_a0_0 c_a0_1 l_a0
  clear c_y0_0 c_y0_1 l_y0
  replace B_a0 := Lib.hid (blk_in B_a0.out hb8)
  replace B_y0 := Lib.hid (blk_in B_y0.out hb8)
  replace o_r := Lib.hid (o_r.out.below hb8)
  replace o_y0 := Lib.hid (o_y0.out.below hb8)
  replace HB := Lib.hid (HB.out.trans (hb8.mono HB.out.size))
  obtain ⟨a_y1, k_y1, rfl⟩ := o_y1.shape
  replace o_y1 := Lib.hid o_y1
  clear hb8
  obtain ⟨c_a0_0, c_a0_1⟩ := cells2 B_a0.out
  have l_a0 := lt_of B_a0.out
  obtain ⟨c_y0_0, c_y0_1⟩ := cells2 B_y0.out
  have l_y0 := lt_of B_y0.out
  go_wp2_with fail
  go_at_call 27
  refine (irun_w _ x0 _ x1 _ o_y0.out.v o_y1.out.v).mono ?_
  rintro e w9 ⟨v_g0, v_g1, rfl, o_g, hb9⟩
  have s9 := Lib.hid (show w8.heap.size ≤ w9.heap.size from hb9.size)
  clear c_a0_0 c_a0_1 l_a0
  clear c_y0_0 c_y0_1 l_y0
  replace B_a0 := Lib.hid (blk_in B_a0.out hb9)
  replace B_y0 := Lib.hid (blk_in B_y0.out hb9)
  replace o_r := Lib.hid (o_r.out.below hb9)
  replace o_y0 := Lib.hid (o_y0.out.below hb9)
  replace o_y1 := Lib.hid (o_y1.out.below hb9)
  replace HB := Lib.hid (HB.out.trans (hb9.mono HB.out.size))
  obtain ⟨⟨a_g0, k_g0, rfl⟩, ⟨a_g1, k_g1, rfl⟩⟩ := o_g.shape
  replace o_g := Lib.hid o_g
  clear hb9
  obtain ⟨c_a0_0, c_a0_1⟩ := cells2 B_a0.out
  have l_a0 := lt_of B_a0.out
  obtain ⟨c_y0_0, c_y0_1⟩ := cells2 B_y0.out
  have l_y0 := lt_of B_y0.out
  go_wp2_with fail
  go_at_call 22
  refine (eqS_ok _ _ (runT x0 x1) _ o_g.out.a.v o_r.out.a.v).mono ?_
  rintro e w10 ⟨rfl, hb10⟩
  have s10 := Lib.hid (show w9.heap.size ≤ w10.heap.size from hb10.size)
  clear c_a0_0 c_a0_1 l_a0
  clear c_y0_0 c_y0_1 l_y0
  replace B_a0 := Lib.hid (blk_in B_a0.out hb10)
  replace B_y0 := Lib.hid (blk_in B_y0.out hb10)
  replace o_r := Lib.hid (o_r.out.below hb10)
  replace o_y0 := Lib.hid (o_y0.out.below hb10)
  replace o_y1 := Lib.hid (o_y1.out.below hb10)
  replace o_g := Lib.hid (o_g.out.below hb10)
  replace HB := Lib.hid (HB.out.trans (hb10.mono HB.out.size))
  clear hb10
  obtain ⟨c_a0_0, c_a0_1⟩ := cells2 B_a0.out
  have l_a0 := lt_of B_a0.out
  obtain ⟨c_y0_0, c_y0_1⟩ := cells2 B_y0.out
  have l_y0 := lt_of B_y0.out
  go_wp2_with fail
  go_at_call 22
  refine (eqS_ok _ _ (runP x0 x1) _ o_g.out.b.v o_r.out.b.v).mono ?_
  rintro e w11 ⟨rfl, hb11⟩
  have s11 := Lib.hid (show w10.heap.size ≤ w11.heap.size from hb11.size)
  clear c_a0_0 c_a0_1 l_a0
  clear c_y0_0 c_y0_1 l_y0
  replace B_a0 := Lib.hid (blk_in B_a0.out hb11)
  replace B_y0 := Lib.hid (blk_in B_y0.out hb11)
  replace o_r := Lib.hid (o_r.out.below hb11)
  replace o_y0 := Lib.hid (o_y0.out.below hb11)
  replace o_y1 := Lib.hid (o_y1.out.below hb11)
  replace o_g := Lib.hid (o_g.out.below hb11)
  replace HB := Lib.hid (HB.out.trans (hb11.mono HB.out.size))
  clear hb11
  obtain ⟨c_a0_0, c_a0_1⟩ := cells2 B_a0.out
  have l_a0 := lt_of B_a0.out
  obtain ⟨c_y0_0, c_y0_1⟩ := cells2 B_y0.out
  have l_y0 := lt_of B_y0.out
  go_upto_region 13 with fail
  go_cut [67] from 154 (fun s wr => s = .bool false ∧ Hid (Below w11.heap.size w11 wr))
  case first =>
    go_region_held3 (fun w' => w'.cell? ⟨w.heap.size, 0, none⟩ = some (.int .i64 (x0).nodes) ∧ w'.cell? ⟨w.heap.size, 1, none⟩ = some (.slice ga (x0).edges.length gb) ∧ w'.cell? ⟨w6.heap.size, 0, none⟩ = some (.int .i64 (x0).nodes) ∧ w'.cell? ⟨w6.heap.size, 1, none⟩ = some (.slice a_y0 (x0).edges.length k_y0)) (go_keep) (first | (go_at_call 16; refine (toGr_h _ x0 _ (HA0.out.below (HB.out.trans ((by first | with_reducible exact Below.refl _ _ | with_reducible exact (Below.refl _ _).drew : Below w11.heap.size w11 _).mono HB.out.size))) HS0.out).mono ?_; rintro e W7 ⟨v7, rfl, o7, hb7⟩; have hc7 := (show Below w11.heap.size w11 W7 by first | with_reducible exact hb7 | with_reducible exact cr_d hb7); have HC7 := Lib.hid hc7; have q_a0 := blk_in B_a0.out hc7; have q_y0 := blk_in B_y0.out hc7; obtain ⟨e7_a0_0, e7_a0_1⟩ := cells2 q_a0; have l7_a0 := lt_of q_a0; have Q7_a0 := Lib.hid q_a0; clear q_a0; obtain ⟨e7_y0_0, e7_y0_1⟩ := cells2 q_y0; have l7_y0 := lt_of q_y0; have Q7_y0 := Lib.hid q_y0; clear q_y0; have V7 := Lib.hid o7.v; have V6 := Lib.hid ((o_y0.out.below hc7).v); clear o7 hb7 hc7) | (go_at_call 18; refine (eqGr_ok _ _ x0 _ V6.out V7.out).mono ?_; rintro e W8 ⟨rfl, hb8⟩; have HC8 := Lib.hid (HC7.out.trans (hb8.mono HC7.out.size)); have q_a0 := blk_in Q7_a0.out hb8; have q_y0 := blk_in Q7_y0.out hb8; obtain ⟨e8_a0_0, e8_a0_1⟩ := cells2 q_a0; have l8_a0 := lt_of q_a0; have Q8_a0 := Lib.hid q_a0; clear q_a0; obtain ⟨e8_y0_0, e8_y0_1⟩ := cells2 q_y0; have l8_y0 := lt_of q_y0; have Q8_y0 := Lib.hid q_y0; clear q_y0; clear hb8))
    all_goals
      go_wp2_with fail
      go_meet
      case rel => exact ⟨rfl, HC8⟩
  rename World => w12
  obtain ⟨rfl, hb12⟩ := hcut
  replace hb12 := hb12.out
  have s12 := Lib.hid (show w11.heap.size ≤ w12.heap.size from hb12.size)
  clear c_a0_0 c_a0_1 l_a0
  clear c_y0_0 c_y0_1 l_y0
  replace B_a0 := Lib.hid (blk_in B_a0.out hb12)
  replace B_y0 := Lib.hid (blk_in B_y0.out hb12)
  replace o_r := Lib.hid (o_r.out.below hb12)
  replace o_y0 := Lib.hid (o_y0.out.below hb12)
  replace o_y1 := Lib.hid (o_y1.out.below hb12)
  replace o_g := Lib.hid (o_g.out.below hb12)
  replace HB := Lib.hid (HB.out.trans (hb12.mono HB.out.size))
  clear hb12
  obtain ⟨c_a0_0, c_a0_1⟩ := cells2 B_a0.out
  have l_a0 := lt_of B_a0.out
  obtain ⟨c_y0_0, c_y0_1⟩ := cells2 B_y0.out
  have l_y0 := lt_of B_y0.out
  go_wp2_with fail
  go_at_call 20
  refine (toInt_h _ x1 _ (HA1.out.below HB.out) HS1.out).mono ?_
  rintro e w13 ⟨v_z1, rfl, o_z1, hb13⟩
  have s13 := Lib.hid (show w12.heap.size ≤ w13.heap.size from hb13.size)
  clear c_a0_0 c_a0_1 l_a0
  clear c_y0_0 c_y0_1 l_y0
  replace B_a0 := Lib.hid (blk_in B_a0.out hb13)
  replace B_y0 := Lib.hid (blk_in B_y0.out hb13)
  replace o_r := Lib.hid (o_r.out.below hb13)
  replace o_y0 := Lib.hid (o_y0.out.below hb13)
  replace o_y1 := Lib.hid (o_y1.out.below hb13)
  replace o_g := Lib.hid (o_g.out.below hb13)
  replace HB := Lib.hid (HB.out.trans (hb13.mono HB.out.size))
  obtain ⟨a_z1, k_z1, rfl⟩ := o_z1.shape
  replace o_z1 := Lib.hid o_z1
  clear hb13
  obtain ⟨c_a0_0, c_a0_1⟩ := cells2 B_a0.out
  have l_a0 := lt_of B_a0.out
  obtain ⟨c_y0_0, c_y0_1⟩ := cells2 B_y0.out
  have l_y0 := lt_of B_y0.out
  go_wp2_with fail
  go_at_call 22
  refine (eqS_ok _ _ x1 _ o_y1.out.v o_z1.out.v).mono ?_
  rintro e w14 ⟨rfl, hb14⟩
  have s14 := Lib.hid (show w13.heap.size ≤ w14.heap.size from hb14.size)
  clear c_a0_0 c_a0_1 l_a0
  clear c_y0_0 c_y0_1 l_y0
  replace B_a0 := Lib.hid (blk_in B_a0.out hb14)
  replace B_y0 := Lib.hid (blk_in B_y0.out hb14)
  replace o_r := Lib.hid (o_r.out.below hb14)
  replace o_y0 := Lib.hid (o_y0.out.below hb14)
  replace o_y1 := Lib.hid (o_y1.out.below hb14)
  replace o_g := Lib.hid (o_g.out.below hb14)
  replace o_z1 := Lib.hid (o_z1.out.below hb14)
  replace HB := Lib.hid (HB.out.trans (hb14.mono HB.out.size))
  clear hb14
  obtain ⟨c_a0_0, c_a0_1⟩ := cells2 B_a0.out
  have l_a0 := lt_of B_a0.out
  obtain ⟨c_y0_0, c_y0_1⟩ := cells2 B_y0.out
  have l_y0 := lt_of B_y0.out
  clear o_z1
  go_wp2_with fail
  go_at_call 23
  refine (markGr_h (w5.heap.size) (w6.heap.size) _ x0 (1) _ o_y0.out (by omega) (by have := HS0.out; have := HS1.out; omega)).mono ?_
  rintro e w15 ⟨rfl, hO15⟩
  have s15 := Lib.hid (show w14.heap.size ≤ w15.heap.size from hO15.size)
  clear c_a0_0 c_a0_1 l_a0
  clear c_y0_0 c_y0_1 l_y0
  replace B_a0 := Lib.hid (hO15.blk B_a0.out (by have := s1.out; have := t1.out; have := s2.out; have := s3.out; have := s4.out; have := s5.out; have := s6.out; have := s7.out; have := t7.out; have := s8.out; have := s9.out; have := s10.out; have := s11.out; have := s12.out; have := s13.out; have := s14.out; omega))
  replace B_y0 := Lib.hid (hO15.blk B_y0.out (by have := s1.out; have := t1.out; have := s2.out; have := s3.out; have := s4.out; have := s5.out; have := s6.out; have := s7.out; have := t7.out; have := s8.out; have := s9.out; have := s10.out; have := s11.out; have := s12.out; have := s13.out; have := s14.out; omega))
  replace o_r := Lib.hid (o_r.out.out hO15 (by have := s1.out; have := t1.out; have := s2.out; have := s3.out; have := s4.out; have := s5.out; have := s6.out; have := s7.out; have := t7.out; have := s8.out; have := s9.out; have := s10.out; have := s11.out; have := s12.out; have := s13.out; have := s14.out; omega))
  replace o_y1 := Lib.hid (o_y1.out.out hO15 (by have := s1.out; have := t1.out; have := s2.out; have := s3.out; have := s4.out; have := s5.out; have := s6.out; have := s7.out; have := t7.out; have := s8.out; have := s9.out; have := s10.out; have := s11.out; have := s12.out; have := s13.out; have := s14.out; omega))
  replace o_g := Lib.hid (o_g.out.out hO15 (by have := s1.out; have := t1.out; have := s2.out; have := s3.out; have := s4.out; have := s5.out; have := s6.out; have := s7.out; have := t7.out; have := s8.out; have := s9.out; have := s10.out; have := s11.out; have := s12.out; have := s13.out; have := s14.out; omega))
  replace HB := Lib.hid (hO15.below HB.out HB.out.size (by have := s1.out; have := t1.out; have := s2.out; have := s3.out; have := s4.out; have := s5.out; have := s6.out; have := s7.out; have := t7.out; have := s8.out; have := s9.out; have := s10.out; have := s11.out; have := s12.out; have := s13.out; have := s14.out; omega))
  clear hO15
  obtain ⟨c_a0_0, c_a0_1⟩ := cells2 B_a0.out
  have l_a0 := lt_of B_a0.out
  obtain ⟨c_y0_0, c_y0_1⟩ := cells2 B_y0.out
  have l_y0 := lt_of B_y0.out
  clear o_y0
  go_wp2_with fail
  go_at_call 24
  refine (mark_h (w7.heap.size) (w8.heap.size) _ x1 (1 + 5 * (((x0).edges.length : Nat) : Int)) _ o_y1.out (by omega) (by have := HS0.out; have := HS1.out; omega)).mono ?_
  rintro e w16 ⟨rfl, _, hO16⟩
  have s16 := Lib.hid (show w15.heap.size ≤ w16.heap.size from hO16.size)
  clear c_a0_0 c_a0_1 l_a0
  clear c_y0_0 c_y0_1 l_y0
  replace B_a0 := Lib.hid (hO16.blk B_a0.out (by have := s1.out; have := t1.out; have := s2.out; have := s3.out; have := s4.out; have := s5.out; have := s6.out; have := s7.out; have := t7.out; have := s8.out; have := s9.out; have := s10.out; have := s11.out; have := s12.out; have := s13.out; have := s14.out; have := s15.out; omega))
  replace B_y0 := Lib.hid (hO16.blk B_y0.out (by have := s1.out; have := t1.out; have := s2.out; have := s3.out; have := s4.out; have := s5.out; have := s6.out; have := s7.out; have := t7.out; have := s8.out; have := s9.out; have := s10.out; have := s11.out; have := s12.out; have := s13.out; have := s14.out; have := s15.out; omega))
  replace o_r := Lib.hid (o_r.out.out hO16 (by have := s1.out; have := t1.out; have := s2.out; have := s3.out; have := s4.out; have := s5.out; have := s6.out; have := s7.out; have := t7.out; have := s8.out; have := s9.out; have := s10.out; have := s11.out; have := s12.out; have := s13.out; have := s14.out; have := s15.out; omega))
  replace o_g := Lib.hid (o_g.out.out hO16 (by have := s1.out; have := t1.out; have := s2.out; have := s3.out; have := s4.out; have := s5.out; have := s6.out; have := s7.out; have := t7.out; have := s8.out; have := s9.out; have := s10.out; have := s11.out; have := s12.out; have := s13.out; have := s14.out; have := s15.out; omega))
  replace HB := Lib.hid (hO16.below HB.out HB.out.size (by have := s1.out; have := t1.out; have := s2.out; have := s3.out; have := s4.out; have := s5.out; have := s6.out; have := s7.out; have := t7.out; have := s8.out; have := s9.out; have := s10.out; have := s11.out; have := s12.out; have := s13.out; have := s14.out; have := s15.out; omega))
  clear hO16
  obtain ⟨c_a0_0, c_a0_1⟩ := cells2 B_a0.out
  have l_a0 := lt_of B_a0.out
  obtain ⟨c_y0_0, c_y0_1⟩ := cells2 B_y0.out
  have l_y0 := lt_of B_y0.out
  clear o_y1
  have dk : decide (1 + 5 * (((x0).edges.length : Nat) : Int) + (((x1).length : Nat) : Int) < 0) = false := decide_eq_false (by omega)
  go_wp2_with fail
  go_at_call 22
  refine (eqS_ok _ _ (runT x0 x1) _ o_g.out.a.v o_r.out.a.v).mono ?_
  rintro e w17 ⟨rfl, hb17⟩
  have s17 := Lib.hid (show w16.heap.size ≤ w17.heap.size from hb17.size)
  clear c_a0_0 c_a0_1 l_a0
  clear c_y0_0 c_y0_1 l_y0
  replace B_a0 := Lib.hid (blk_in B_a0.out hb17)
  replace B_y0 := Lib.hid (blk_in B_y0.out hb17)
  replace o_r := Lib.hid (o_r.out.below hb17)
  replace o_g := Lib.hid (o_g.out.below hb17)
  replace HB := Lib.hid (HB.out.trans (hb17.mono HB.out.size))
  clear hb17
  obtain ⟨c_a0_0, c_a0_1⟩ := cells2 B_a0.out
  have l_a0 := lt_of B_a0.out
  obtain ⟨c_y0_0, c_y0_1⟩ := cells2 B_y0.out
  have l_y0 := lt_of B_y0.out
  go_wp2_with fail
  go_at_call 22
  refine (eqS_ok _ _ (runP x0 x1) _ o_g.out.b.v o_r.out.b.v).mono ?_
  rintro e w18 ⟨rfl, hb18⟩
  have s18 := Lib.hid (show w17.heap.size ≤ w18.heap.size from hb18.size)
  clear c_a0_0 c_a0_1 l_a0
  clear c_y0_0 c_y0_1 l_y0
  replace B_a0 := Lib.hid (blk_in B_a0.out hb18)
  replace B_y0 := Lib.hid (blk_in B_y0.out hb18)
  replace o_r := Lib.hid (o_r.out.below hb18)
  replace o_g := Lib.hid (o_g.out.below hb18)
  replace HB := Lib.hid (HB.out.trans (hb18.mono HB.out.size))
  clear hb18
  obtain ⟨c_a0_0, c_a0_1⟩ := cells2 B_a0.out
  have l_a0 := lt_of B_a0.out
  obtain ⟨c_y0_0, c_y0_1⟩ := cells2 B_y0.out
  have l_y0 := lt_of B_y0.out
  go_wp2_with fail
  go_at_call 24
  refine (mark2a_h (w8.heap.size) (w9.heap.size) _ _ (runT x0 x1) _ (1) _ o_g.out (by omega) (by have := BD.out; omega)).mono ?_
  rintro e w19 ⟨rfl, m_g, hO19⟩
  have s19 := Lib.hid (show w18.heap.size ≤ w19.heap.size from hO19.size)
  clear c_a0_0 c_a0_1 l_a0
  clear c_y0_0 c_y0_1 l_y0
  replace B_a0 := Lib.hid (hO19.blk B_a0.out (by have := s1.out; have := t1.out; have := s2.out; have := s3.out; have := s4.out; have := s5.out; have := s6.out; have := s7.out; have := t7.out; have := s8.out; have := s9.out; have := s10.out; have := s11.out; have := s12.out; have := s13.out; have := s14.out; have := s15.out; have := s16.out; have := s17.out; have := s18.out; omega))
  replace B_y0 := Lib.hid (hO19.blk B_y0.out (by have := s1.out; have := t1.out; have := s2.out; have := s3.out; have := s4.out; have := s5.out; have := s6.out; have := s7.out; have := t7.out; have := s8.out; have := s9.out; have := s10.out; have := s11.out; have := s12.out; have := s13.out; have := s14.out; have := s15.out; have := s16.out; have := s17.out; have := s18.out; omega))
  replace o_r := Lib.hid (o_r.out.out hO19 (by have := s1.out; have := t1.out; have := s2.out; have := s3.out; have := s4.out; have := s5.out; have := s6.out; have := s7.out; have := t7.out; have := s8.out; have := s9.out; have := s10.out; have := s11.out; have := s12.out; have := s13.out; have := s14.out; have := s15.out; have := s16.out; have := s17.out; have := s18.out; omega))
  replace HB := Lib.hid (hO19.below HB.out HB.out.size (by have := s1.out; have := t1.out; have := s2.out; have := s3.out; have := s4.out; have := s5.out; have := s6.out; have := s7.out; have := t7.out; have := s8.out; have := s9.out; have := s10.out; have := s11.out; have := s12.out; have := s13.out; have := s14.out; have := s15.out; have := s16.out; have := s17.out; have := s18.out; omega))
  clear o_g
  have o_g := Lib.hid m_g
  clear m_g
  clear hO19
  obtain ⟨c_a0_0, c_a0_1⟩ := cells2 B_a0.out
  have l_a0 := lt_of B_a0.out
  obtain ⟨c_y0_0, c_y0_1⟩ := cells2 B_y0.out
  have l_y0 := lt_of B_y0.out
  have dm0 : decide (1 + ((((runT x0 x1)).length : Nat) : Int) < 0) = false := decide_eq_false (by omega)
  go_wp2_with fail
  go_at_call 24
  refine (mark2b_h (w8.heap.size) (w9.heap.size) _ _ _ (runP x0 x1) (1 + ((((runT x0 x1)).length : Nat) : Int)) _ o_g.out (by omega) (by have := BD.out; omega)).mono ?_
  rintro e w20 ⟨rfl, m_g, hO20⟩
  have s20 := Lib.hid (show w19.heap.size ≤ w20.heap.size from hO20.size)
  clear c_a0_0 c_a0_1 l_a0
  clear c_y0_0 c_y0_1 l_y0
  replace B_a0 := Lib.hid (hO20.blk B_a0.out (by have := s1.out; have := t1.out; have := s2.out; have := s3.out; have := s4.out; have := s5.out; have := s6.out; have := s7.out; have := t7.out; have := s8.out; have := s9.out; have := s10.out; have := s11.out; have := s12.out; have := s13.out; have := s14.out; have := s15.out; have := s16.out; have := s17.out; have := s18.out; have := s19.out; omega))
  replace B_y0 := Lib.hid (hO20.blk B_y0.out (by have := s1.out; have := t1.out; have := s2.out; have := s3.out; have := s4.out; have := s5.out; have := s6.out; have := s7.out; have := t7.out; have := s8.out; have := s9.out; have := s10.out; have := s11.out; have := s12.out; have := s13.out; have := s14.out; have := s15.out; have := s16.out; have := s17.out; have := s18.out; have := s19.out; omega))
  replace o_r := Lib.hid (o_r.out.out hO20 (by have := s1.out; have := t1.out; have := s2.out; have := s3.out; have := s4.out; have := s5.out; have := s6.out; have := s7.out; have := t7.out; have := s8.out; have := s9.out; have := s10.out; have := s11.out; have := s12.out; have := s13.out; have := s14.out; have := s15.out; have := s16.out; have := s17.out; have := s18.out; have := s19.out; omega))
  replace HB := Lib.hid (hO20.below HB.out HB.out.size (by have := s1.out; have := t1.out; have := s2.out; have := s3.out; have := s4.out; have := s5.out; have := s6.out; have := s7.out; have := t7.out; have := s8.out; have := s9.out; have := s10.out; have := s11.out; have := s12.out; have := s13.out; have := s14.out; have := s15.out; have := s16.out; have := s17.out; have := s18.out; have := s19.out; omega))
  clear o_g
  have o_g := Lib.hid m_g
  clear m_g
  clear hO20
  obtain ⟨c_a0_0, c_a0_1⟩ := cells2 B_a0.out
  have l_a0 := lt_of B_a0.out
  obtain ⟨c_y0_0, c_y0_1⟩ := cells2 B_y0.out
  have l_y0 := lt_of B_y0.out
  have dm1 : decide (1 + ((((runT x0 x1)).length : Nat) : Int) + ((((runP x0 x1)).length : Nat) : Int) < 0) = false := decide_eq_false (by omega)
  go_wp2_with fail
  go_at_call 25
  refine (held_any _ (1) ((runT x0 x1)).length _ o_g.out.a.v (by omega) (by have := BD.out; omega) (by have := BD.out; omega)).mono ?_
  rintro e wq ⟨rfl, rfl⟩
  go_wp2_with fail
  go_at_call 25
  refine (held_any _ (1 + ((((runT x0 x1)).length : Nat) : Int)) ((runP x0 x1)).length _ o_g.out.b.v (by omega) (by have := BD.out; omega) (by have := BD.out; omega)).mono ?_
  rintro e wq ⟨rfl, rfl⟩
  go_wp2_with fail
  go_at_call 16
  refine (toGr_h _ x0 _ (HA0.out.below HB.out) HS0.out).mono ?_
  rintro e w21 ⟨v_q0, rfl, o_q0, hb21⟩
  have s21 := Lib.hid (show w20.heap.size ≤ w21.heap.size from hb21.size)
  clear c_a0_0 c_a0_1 l_a0
  clear c_y0_0 c_y0_1 l_y0
  replace B_a0 := Lib.hid (blk_in B_a0.out hb21)
  replace B_y0 := Lib.hid (blk_in B_y0.out hb21)
  replace o_r := Lib.hid (o_r.out.below hb21)
  replace o_g := Lib.hid (o_g.out.below hb21)
  replace HB := Lib.hid (HB.out.trans (hb21.mono HB.out.size))
  obtain ⟨a_q0, k_q0, rfl⟩ := o_q0.shape
  replace o_q0 := Lib.hid o_q0
  clear hb21
  obtain ⟨c_a0_0, c_a0_1⟩ := cells2 B_a0.out
  have l_a0 := lt_of B_a0.out
  obtain ⟨c_y0_0, c_y0_1⟩ := cells2 B_y0.out
  have l_y0 := lt_of B_y0.out
  go_wp2_with fail
  go_at_call 20
  refine (toInt_h _ x1 _ (HA1.out.below HB.out) HS1.out).mono ?_
  rintro e w22 ⟨v_q1, rfl, o_q1, hb22⟩
  have s22 := Lib.hid (show w21.heap.size ≤ w22.heap.size from hb22.size)
  clear c_a0_0 c_a0_1 l_a0
  clear c_y0_0 c_y0_1 l_y0
  replace B_a0 := Lib.hid (blk_in B_a0.out hb22)
  replace B_y0 := Lib.hid (blk_in B_y0.out hb22)
  replace o_r := Lib.hid (o_r.out.below hb22)
  replace o_g := Lib.hid (o_g.out.below hb22)
  replace o_q0 := Lib.hid (o_q0.out.below hb22)
  replace HB := Lib.hid (HB.out.trans (hb22.mono HB.out.size))
  obtain ⟨a_q1, k_q1, rfl⟩ := o_q1.shape
  replace o_q1 := Lib.hid o_q1
  clear hb22
  obtain ⟨c_a0_0, c_a0_1⟩ := cells2 B_a0.out
  have l_a0 := lt_of B_a0.out
  obtain ⟨c_y0_0, c_y0_1⟩ := cells2 B_y0.out
  have l_y0 := lt_of B_y0.out
  go_wp2_with fail
  go_at_call 27
  refine (irun_w _ x0 _ x1 _ o_q0.out.v o_q1.out.v).mono ?_
  rintro e w23 ⟨v_u0, v_u1, rfl, o_u, hb23⟩
  have s23 := Lib.hid (show w22.heap.size ≤ w23.heap.size from hb23.size)
  clear c_a0_0 c_a0_1 l_a0
  clear c_y0_0 c_y0_1 l_y0
  replace B_a0 := Lib.hid (blk_in B_a0.out hb23)
  replace B_y0 := Lib.hid (blk_in B_y0.out hb23)
  replace o_r := Lib.hid (o_r.out.below hb23)
  replace o_g := Lib.hid (o_g.out.below hb23)
  replace o_q0 := Lib.hid (o_q0.out.below hb23)
  replace o_q1 := Lib.hid (o_q1.out.below hb23)
  replace HB := Lib.hid (HB.out.trans (hb23.mono HB.out.size))
  obtain ⟨⟨a_u0, k_u0, rfl⟩, ⟨a_u1, k_u1, rfl⟩⟩ := o_u.shape
  replace o_u := Lib.hid o_u
  clear hb23
  obtain ⟨c_a0_0, c_a0_1⟩ := cells2 B_a0.out
  have l_a0 := lt_of B_a0.out
  obtain ⟨c_y0_0, c_y0_1⟩ := cells2 B_y0.out
  have l_y0 := lt_of B_y0.out
  clear o_q0
  clear o_q1
  go_wp2_with fail
  go_at_call 22
  refine (eqS_ok _ _ (runT x0 x1) _ o_u.out.a.v o_r.out.a.v).mono ?_
  rintro e w24 ⟨rfl, hb24⟩
  have s24 := Lib.hid (show w23.heap.size ≤ w24.heap.size from hb24.size)
  clear c_a0_0 c_a0_1 l_a0
  clear c_y0_0 c_y0_1 l_y0
  replace B_a0 := Lib.hid (blk_in B_a0.out hb24)
  replace B_y0 := Lib.hid (blk_in B_y0.out hb24)
  replace o_r := Lib.hid (o_r.out.below hb24)
  replace o_g := Lib.hid (o_g.out.below hb24)
  replace o_u := Lib.hid (o_u.out.below hb24)
  replace HB := Lib.hid (HB.out.trans (hb24.mono HB.out.size))
  clear hb24
  obtain ⟨c_a0_0, c_a0_1⟩ := cells2 B_a0.out
  have l_a0 := lt_of B_a0.out
  obtain ⟨c_y0_0, c_y0_1⟩ := cells2 B_y0.out
  have l_y0 := lt_of B_y0.out
  go_wp2_with fail
  go_at_call 22
  refine (eqS_ok _ _ (runP x0 x1) _ o_u.out.b.v o_r.out.b.v).mono ?_
  rintro e w25 ⟨rfl, hb25⟩
  have s25 := Lib.hid (show w24.heap.size ≤ w25.heap.size from hb25.size)
  clear c_a0_0 c_a0_1 l_a0
  clear c_y0_0 c_y0_1 l_y0
  replace B_a0 := Lib.hid (blk_in B_a0.out hb25)
  replace B_y0 := Lib.hid (blk_in B_y0.out hb25)
  replace o_r := Lib.hid (o_r.out.below hb25)
  replace o_g := Lib.hid (o_g.out.below hb25)
  replace o_u := Lib.hid (o_u.out.below hb25)
  replace HB := Lib.hid (HB.out.trans (hb25.mono HB.out.size))
  clear hb25
  obtain ⟨c_a0_0, c_a0_1⟩ := cells2 B_a0.out
  have l_a0 := lt_of B_a0.out
  obtain ⟨c_y0_0, c_y0_1⟩ := cells2 B_y0.out
  have l_y0 := lt_of B_y0.out
  go_wp2_with fail
  go_at_call 25
  refine (held_any _ (1) ((runT x0 x1)).length _ o_g.out.a.v (by omega) (by have := BD.out; omega) (by have := BD.out; omega)).mono ?_
  rintro e wq ⟨rfl, rfl⟩
  go_wp2_with fail
  go_at_call 25
  refine (held_any _ (1 + ((((runT x0 x1)).length : Nat) : Int)) ((runP x0 x1)).length _ o_g.out.b.v (by omega) (by have := BD.out; omega) (by have := BD.out; omega)).mono ?_
  rintro e wq ⟨rfl, rfl⟩
  go_wp2_with fail
  go_ret
  exact ⟨rfl, HB.out⟩

end Go.Proofs.Ytokhdnejaecejaa
