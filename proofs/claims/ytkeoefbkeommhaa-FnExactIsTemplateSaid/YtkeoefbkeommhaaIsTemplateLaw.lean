/-
  The walk of the law FnExactIsTemplate: it answers true and changes nothing that was there.
-/
import Derived.Test.YtkeoefbkeommhaaTmI
import Derived.Test.YtkeoefbkeommhaaLawKit
import Derived.Deep.Cut
import Derived.Deep.RegionHeld3
namespace Go.Proofs.Ytkeoefbkeommhaa
open Go.RowKit

set_option maxRecDepth 100000 in
set_option maxHeartbeats 40000000 in
theorem fnExactIsTemplate_walk (v0 : Value) (x0 : Net) (x1 : Int) (v2 : Value) (x2 : Net) (w : World) (h0 : NetV w v0 x0) (h1 : (Lit.int .i64 x1).wf = true) (h2 : NetV w v2 x2) :
    Calls Try.prog 5 #[v0, .int .i64 x1, v2] w fun e w' => e = .returned (.bool true) ∧ Below w.heap.size w w' := by
  have HA0 := Lib.hid h0
  obtain ⟨cp, cl, rfl, hp, hl⟩ := h0
  obtain ⟨pa0, pcap0, rfl⟩ := hp.shape
  obtain ⟨la0, lcap0, rfl⟩ := hl.shape
  clear hp hl
  have HA2 := Lib.hid h2
  obtain ⟨cp, cl, rfl, hp, hl⟩ := h2
  obtain ⟨pa2, pcap2, rfl⟩ := hp.shape
  obtain ⟨la2, lcap2, rfl⟩ := hl.shape
  clear hp hl
  have HB := Lib.hid (Below.refl w.heap.size w)
  go_enter Try.func5, Try.ntmps5
  have HL0 := Lib.hid (show (0 : Int) ≤ 1048576 ∧ (1048576 : Int) ≤ 1048576 by omega)
  go_wp2_with fail
  generalize hw1 : w.alloc (.cells #[.slice pa0 (x0).progs.length pcap0, .slice la0 (x0).links.length lcap0] 25) = w1
  have hb1 : Below w.heap.size w w1 := by rw [← hw1]; exact (Below.refl _ _).al _
  have hn1 : w1.heap[w.heap.size]? = some (.cells #[.slice pa0 (x0).progs.length pcap0, .slice la0 (x0).links.length lcap0] 25) := by rw [← hw1]; exact hp1 _ _
  have hz1 : w.heap.size + 1 = w1.heap.size := by rw [← hw1]; simp
  rw [hz1]
  clear hz1
  clear hw1
  have s1 := Lib.hid (show w.heap.size ≤ w1.heap.size from hb1.size)
  replace HB := Lib.hid (HB.out.trans (hb1.mono HB.out.size))
  have B_a0 := Lib.hid hn1
  have t1 := Lib.hid (lt_of hn1)
  clear hn1 hb1
  obtain ⟨c_a0_0, c_a0_1⟩ := cells2 B_a0.out
  have l_a0 := lt_of B_a0.out
  generalize hw2 : w1.alloc (.cells #[.slice pa2 (x2).progs.length pcap2, .slice la2 (x2).links.length lcap2] 25) = w2
  have hb2 : Below w1.heap.size w1 w2 := by rw [← hw2]; exact (Below.refl _ _).al _
  have hn2 : w2.heap[w1.heap.size]? = some (.cells #[.slice pa2 (x2).progs.length pcap2, .slice la2 (x2).links.length lcap2] 25) := by rw [← hw2]; exact hp1 _ _
  clear hw2
  have s2 := Lib.hid (show w1.heap.size ≤ w2.heap.size from hb2.size)
  clear c_a0_0 c_a0_1 l_a0
  replace B_a0 := Lib.hid (blk_in B_a0.out hb2)
  replace HB := Lib.hid (HB.out.trans (hb2.mono HB.out.size))
  have B_a2 := Lib.hid hn2
  have t2 := Lib.hid (lt_of hn2)
  clear hn2 hb2
  obtain ⟨c_a0_0, c_a0_1⟩ := cells2 B_a0.out
  have l_a0 := lt_of B_a0.out
  obtain ⟨c_a2_0, c_a2_1⟩ := cells2 B_a2.out
  have l_a2 := lt_of B_a2.out
  go_at_call 12
  by_cases z0 : ((szN x0 : Nat) : Int) ≤ 1048576
  case neg =>
    refine (szNet_any _ x0 (1048576) _ (HA0.out.below HB.out) HL0.out).mono ?_
    rintro e wz ⟨rfl, hb⟩
    rw [if_neg z0]
    go_wp2_with fail
    go_ret
    exact ⟨rfl, HB.out.trans (hb.mono HB.out.size)⟩
  refine (szNet_any _ x0 (1048576) _ (HA0.out.below HB.out) HL0.out).mono ?_
  rintro e w3 ⟨rfl, hb3⟩
  rw [if_pos z0]
  obtain ⟨l1, hl⟩ : ∃ l : Int, l = 1048576 - ((szN x0 : Nat) : Int) := ⟨_, rfl⟩
  rw [← hl]
  have HL1 := Lib.hid (show 0 ≤ l1 ∧ l1 ≤ 1048576 by have := HL0.out; omega)
  have HS0 := Lib.hid (show szN x0 ≤ 1048576 by have := HL0.out; omega)
  have d1 : decide (l1 < 0) = false := decide_eq_false (by have := HL1.out; omega)
  clear hl z0
  have s3 := Lib.hid (show w2.heap.size ≤ w3.heap.size from hb3.size)
  clear c_a0_0 c_a0_1 l_a0
  clear c_a2_0 c_a2_1 l_a2
  replace B_a0 := Lib.hid (blk_in B_a0.out hb3)
  replace B_a2 := Lib.hid (blk_in B_a2.out hb3)
  replace HB := Lib.hid (HB.out.trans (hb3.mono HB.out.size))
  clear hb3
  obtain ⟨c_a0_0, c_a0_1⟩ := cells2 B_a0.out
  have l_a0 := lt_of B_a0.out
  obtain ⟨c_a2_0, c_a2_1⟩ := cells2 B_a2.out
  have l_a2 := lt_of B_a2.out
  go_wp2_with fail
  go_at_call 12
  by_cases z2 : ((szN x2 : Nat) : Int) ≤ l1
  case neg =>
    refine (szNet_any _ x2 (l1) _ (HA2.out.below HB.out) HL1.out).mono ?_
    rintro e wz ⟨rfl, hb⟩
    rw [if_neg z2]
    go_wp2_with fail
    go_ret
    exact ⟨rfl, HB.out.trans (hb.mono HB.out.size)⟩
  refine (szNet_any _ x2 (l1) _ (HA2.out.below HB.out) HL1.out).mono ?_
  rintro e w4 ⟨rfl, hb4⟩
  rw [if_pos z2]
  obtain ⟨l2, hl⟩ : ∃ l : Int, l = l1 - ((szN x2 : Nat) : Int) := ⟨_, rfl⟩
  rw [← hl]
  have HL2 := Lib.hid (show 0 ≤ l2 ∧ l2 ≤ 1048576 by have := HL1.out; omega)
  have HS2 := Lib.hid (show szN x2 ≤ 1048576 by have := HL1.out; omega)
  have d2 : decide (l2 < 0) = false := decide_eq_false (by have := HL2.out; omega)
  clear hl z2
  have s4 := Lib.hid (show w3.heap.size ≤ w4.heap.size from hb4.size)
  clear c_a0_0 c_a0_1 l_a0
  clear c_a2_0 c_a2_1 l_a2
  replace B_a0 := Lib.hid (blk_in B_a0.out hb4)
  replace B_a2 := Lib.hid (blk_in B_a2.out hb4)
  replace HB := Lib.hid (HB.out.trans (hb4.mono HB.out.size))
  clear hb4
  obtain ⟨c_a0_0, c_a0_1⟩ := cells2 B_a0.out
  have l_a0 := lt_of B_a0.out
  obtain ⟨c_a2_0, c_a2_1⟩ := cells2 B_a2.out
  have l_a2 := lt_of B_a2.out
  go_upto_region 8 with fail
  go_cut [8] from 49 (fun s8 wr => s8 = .bool (templB x0 x1 x2) ∧ Hid (Below w4.heap.size w4 wr))
  case first =>
    go_region_held3 (fun w' => w'.cell? ⟨w.heap.size, 0, none⟩ = some (.slice pa0 (x0).progs.length pcap0) ∧ w'.cell? ⟨w.heap.size, 1, none⟩ = some (.slice la0 (x0).links.length lcap0) ∧ w'.cell? ⟨w1.heap.size, 0, none⟩ = some (.slice pa2 (x2).progs.length pcap2) ∧ w'.cell? ⟨w1.heap.size, 1, none⟩ = some (.slice la2 (x2).links.length lcap2)) (go_keep) (first | (go_at_call 14; (with_reducible refine (toNet_h _ x0 _ (HA0.out.below (HB.out.trans ((by first | with_reducible exact Below.refl _ _ | with_reducible exact (Below.refl _ _).drew : Below w4.heap.size w4 _).mono HB.out.size))) HS0.out).mono ?_); rintro e X70 ⟨v70, rfl, ot70, hx70⟩; have hs70 := (show Below w4.heap.size w4 X70 by first | with_reducible exact hx70 | with_reducible exact cr_d hx70); have HC70 := Lib.hid hs70; have Q70_a0 := Lib.hid (blk_in B_a0.out hs70); obtain ⟨e70_a0_0, e70_a0_1⟩ := cells2 Q70_a0.out; have l70_a0 := lt_of Q70_a0.out; have Q70_a2 := Lib.hid (blk_in B_a2.out hs70); obtain ⟨e70_a2_0, e70_a2_1⟩ := cells2 Q70_a2.out; have l70_a2 := lt_of Q70_a2.out; obtain ⟨ra70, rb70, rfl⟩ := ot70.shape; have T0_70 := Lib.hid ot70; clear ot70 hx70 hs70) | (go_at_call 14; (with_reducible refine (toNet_h _ x2 _ (HA2.out.below (HB.out.trans ((by first | with_reducible exact HC70.out | with_reducible exact HC70.out.drew : Below w4.heap.size w4 _).mono HB.out.size))) HS2.out).mono ?_); rintro e X72 ⟨v72, rfl, ot72, hx72⟩; have hs72 := (show Below X70.heap.size X70 X72 by first | with_reducible exact hx72 | with_reducible exact cr_d hx72); have HC72 := Lib.hid (HC70.out.trans (hs72.mono HC70.out.size)); have Q72_a0 := Lib.hid (blk_in Q70_a0.out hs72); obtain ⟨e72_a0_0, e72_a0_1⟩ := cells2 Q72_a0.out; have l72_a0 := lt_of Q72_a0.out; have Q72_a2 := Lib.hid (blk_in Q70_a2.out hs72); obtain ⟨e72_a2_0, e72_a2_1⟩ := cells2 Q72_a2.out; have l72_a2 := lt_of Q72_a2.out; have T0_72 := Lib.hid (T0_70.out.below hs72); obtain ⟨ra72, rb72, rfl⟩ := ot72.shape; have T2_72 := Lib.hid ot72; clear ot72 hx72 hs72) | (go_at_call 24; refine (stempl_any _ x0 x1 _ x2 _ (by first | with_reducible exact T0_72.out.v | with_reducible exact (T0_72.out.below (Below.refl _ _).drew).v) h1 (by first | with_reducible exact T2_72.out.v | with_reducible exact (T2_72.out.below (Below.refl _ _).drew).v)).mono ?_; rintro e X79 ⟨rfl, hx79⟩; have hs79 := (show Below X72.heap.size X72 X79 by first | with_reducible exact hx79 | with_reducible exact cr_d hx79); have HC79 := Lib.hid (HC72.out.trans (hs79.mono HC72.out.size)); have Q79_a0 := Lib.hid (blk_in Q72_a0.out hs79); obtain ⟨e79_a0_0, e79_a0_1⟩ := cells2 Q79_a0.out; have l79_a0 := lt_of Q79_a0.out; have Q79_a2 := Lib.hid (blk_in Q72_a2.out hs79); obtain ⟨e79_a2_0, e79_a2_1⟩ := cells2 Q79_a2.out; have l79_a2 := lt_of Q79_a2.out; have T0_79 := Lib.hid (T0_72.out.below hs79); have T2_79 := Lib.hid (T2_72.out.below hs79); clear hx79 hs79))
    all_goals
      go_wp2_with fail
      go_meet
      case rel => exact ⟨rfl, (by first | with_reducible exact HC79 | with_reducible exact Lib.hid HC79.out.drew)⟩
  rename World => w5
  obtain ⟨rfl, hb5⟩ := hcut
  replace hb5 := hb5.out
  have s5 := Lib.hid (show w4.heap.size ≤ w5.heap.size from hb5.size)
  clear c_a0_0 c_a0_1 l_a0
  clear c_a2_0 c_a2_1 l_a2
  replace B_a0 := Lib.hid (blk_in B_a0.out hb5)
  replace B_a2 := Lib.hid (blk_in B_a2.out hb5)
  replace HB := Lib.hid (HB.out.trans (hb5.mono HB.out.size))
  clear hb5
  obtain ⟨c_a0_0, c_a0_1⟩ := cells2 B_a0.out
  have l_a0 := lt_of B_a0.out
  obtain ⟨c_a2_0, c_a2_1⟩ := cells2 B_a2.out
  have l_a2 := lt_of B_a2.out
  go_wp2_with fail
  go_at_call 14
  refine (toNet_h _ x0 _ (HA0.out.below HB.out) HS0.out).mono ?_
  rintro e w6 ⟨v_y0, rfl, o_y0, hb6⟩
  have s6 := Lib.hid (show w5.heap.size ≤ w6.heap.size from hb6.size)
  clear c_a0_0 c_a0_1 l_a0
  clear c_a2_0 c_a2_1 l_a2
  replace B_a0 := Lib.hid (blk_in B_a0.out hb6)
  replace B_a2 := Lib.hid (blk_in B_a2.out hb6)
  replace HB := Lib.hid (HB.out.trans (hb6.mono HB.out.size))
  obtain ⟨a_y0, k_y0, rfl⟩ := o_y0.shape
  replace o_y0 := Lib.hid o_y0
  clear hb6
  obtain ⟨c_a0_0, c_a0_1⟩ := cells2 B_a0.out
  have l_a0 := lt_of B_a0.out
  obtain ⟨c_a2_0, c_a2_1⟩ := cells2 B_a2.out
  have l_a2 := lt_of B_a2.out
  go_wp2_with fail
  generalize hw7 : w6.alloc (.cells #[.slice a_y0 (x0).progs.length (x0).progs.length, .slice k_y0 (x0).links.length (x0).links.length] 31) = w7
  have hb7 : Below w6.heap.size w6 w7 := by rw [← hw7]; exact (Below.refl _ _).al _
  have hn7 : w7.heap[w6.heap.size]? = some (.cells #[.slice a_y0 (x0).progs.length (x0).progs.length, .slice k_y0 (x0).links.length (x0).links.length] 31) := by rw [← hw7]; exact hp1 _ _
  clear hw7
  have s7 := Lib.hid (show w6.heap.size ≤ w7.heap.size from hb7.size)
  clear c_a0_0 c_a0_1 l_a0
  clear c_a2_0 c_a2_1 l_a2
  replace B_a0 := Lib.hid (blk_in B_a0.out hb7)
  replace B_a2 := Lib.hid (blk_in B_a2.out hb7)
  replace o_y0 := Lib.hid (o_y0.out.below hb7)
  replace HB := Lib.hid (HB.out.trans (hb7.mono HB.out.size))
  have B_y0 := Lib.hid hn7
  have t7 := Lib.hid (lt_of hn7)
  clear hn7 hb7
  obtain ⟨c_a0_0, c_a0_1⟩ := cells2 B_a0.out
  have l_a0 := lt_of B_a0.out
  obtain ⟨c_a2_0, c_a2_1⟩ := cells2 B_a2.out
  have l_a2 := lt_of B_a2.out
  obtain ⟨c_y0_0, c_y0_1⟩ := cells2 B_y0.out
  have l_y0 := lt_of B_y0.out
  go_wp2_with fail
  go_at_call 14
  refine (toNet_h _ x2 _ (HA2.out.below HB.out) HS2.out).mono ?_
  rintro e w8 ⟨v_y2, rfl, o_y2, hb8⟩
  have s8 := Lib.hid (show w7.heap.size ≤ w8.heap.size from hb8.size)
  clear c_a0_0 c_a0_1 l_a0
  clear c_a2_0 c_a2_1 l_a2
  clear c_y0_0 c_y0_1 l_y0
  replace B_a0 := Lib.hid (blk_in B_a0.out hb8)
  replace B_a2 := Lib.hid (blk_in B_a2.out hb8)
  replace B_y0 := Lib.hid (blk_in B_y0.out hb8)
  replace o_y0 := Lib.hid (o_y0.out.below hb8)
  replace HB := Lib.hid (HB.out.trans (hb8.mono HB.out.size))
  obtain ⟨a_y2, k_y2, rfl⟩ := o_y2.shape
  replace o_y2 := Lib.hid o_y2
  clear hb8
  obtain ⟨c_a0_0, c_a0_1⟩ := cells2 B_a0.out
  have l_a0 := lt_of B_a0.out
  obtain ⟨c_a2_0, c_a2_1⟩ := cells2 B_a2.out
  have l_a2 := lt_of B_a2.out
  obtain ⟨c_y0_0, c_y0_1⟩ := cells2 B_y0.out
  have l_y0 := lt_of B_y0.out
  go_wp2_with fail
  generalize hw9 : w8.alloc (.cells #[.slice a_y2 (x2).progs.length (x2).progs.length, .slice k_y2 (x2).links.length (x2).links.length] 31) = w9
  have hb9 : Below w8.heap.size w8 w9 := by rw [← hw9]; exact (Below.refl _ _).al _
  have hn9 : w9.heap[w8.heap.size]? = some (.cells #[.slice a_y2 (x2).progs.length (x2).progs.length, .slice k_y2 (x2).links.length (x2).links.length] 31) := by rw [← hw9]; exact hp1 _ _
  clear hw9
  have s9 := Lib.hid (show w8.heap.size ≤ w9.heap.size from hb9.size)
  clear c_a0_0 c_a0_1 l_a0
  clear c_a2_0 c_a2_1 l_a2
  clear c_y0_0 c_y0_1 l_y0
  replace B_a0 := Lib.hid (blk_in B_a0.out hb9)
  replace B_a2 := Lib.hid (blk_in B_a2.out hb9)
  replace B_y0 := Lib.hid (blk_in B_y0.out hb9)
  replace o_y0 := Lib.hid (o_y0.out.below hb9)
  replace o_y2 := Lib.hid (o_y2.out.below hb9)
  replace HB := Lib.hid (HB.out.trans (hb9.mono HB.out.size))
  have B_y2 := Lib.hid hn9
  have t9 := Lib.hid (lt_of hn9)
  clear hn9 hb9
  obtain ⟨c_a0_0, c_a0_1⟩ := cells2 B_a0.out
  have l_a0 := lt_of B_a0.out
  obtain ⟨c_a2_0, c_a2_1⟩ := cells2 B_a2.out
  have l_a2 := lt_of B_a2.out
  obtain ⟨c_y0_0, c_y0_1⟩ := cells2 B_y0.out
  have l_y0 := lt_of B_y0.out
  obtain ⟨c_y2_0, c_y2_1⟩ := cells2 B_y2.out
  have l_y2 := lt_of B_y2.out
  go_wp2_with fail
  go_at_call 25
  refine (itempl_any _ x0 x1 _ x2 _ o_y0.out.v h1 o_y2.out.v).mono ?_
  rintro e w10 ⟨rfl, hb10⟩
  have s10 := Lib.hid (show w9.heap.size ≤ w10.heap.size from hb10.size)
  clear c_a0_0 c_a0_1 l_a0
  clear c_a2_0 c_a2_1 l_a2
  clear c_y0_0 c_y0_1 l_y0
  clear c_y2_0 c_y2_1 l_y2
  replace B_a0 := Lib.hid (blk_in B_a0.out hb10)
  replace B_a2 := Lib.hid (blk_in B_a2.out hb10)
  replace B_y0 := Lib.hid (blk_in B_y0.out hb10)
  replace B_y2 := Lib.hid (blk_in B_y2.out hb10)
  replace o_y0 := Lib.hid (o_y0.out.below hb10)
  replace o_y2 := Lib.hid (o_y2.out.below hb10)
  replace HB := Lib.hid (HB.out.trans (hb10.mono HB.out.size))
  clear hb10
  obtain ⟨c_a0_0, c_a0_1⟩ := cells2 B_a0.out
  have l_a0 := lt_of B_a0.out
  obtain ⟨c_a2_0, c_a2_1⟩ := cells2 B_a2.out
  have l_a2 := lt_of B_a2.out
  obtain ⟨c_y0_0, c_y0_1⟩ := cells2 B_y0.out
  have l_y0 := lt_of B_y0.out
  obtain ⟨c_y2_0, c_y2_1⟩ := cells2 B_y2.out
  have l_y2 := lt_of B_y2.out
  go_upto_region 14 with fail
  go_cut [43] from 49 (fun s wr => s = .bool false ∧ Hid (Below w10.heap.size w10 wr))
  case first =>
    go_region_held3 (fun w' => w'.cell? ⟨w.heap.size, 0, none⟩ = some (.slice pa0 (x0).progs.length pcap0) ∧ w'.cell? ⟨w.heap.size, 1, none⟩ = some (.slice la0 (x0).links.length lcap0) ∧ w'.cell? ⟨w6.heap.size, 0, none⟩ = some (.slice a_y0 (x0).progs.length (x0).progs.length) ∧ w'.cell? ⟨w6.heap.size, 1, none⟩ = some (.slice k_y0 (x0).links.length (x0).links.length)) (go_keep) (first | (go_at_call 14; refine (toNet_h _ x0 _ (HA0.out.below (HB.out.trans ((by first | with_reducible exact Below.refl _ _ | with_reducible exact (Below.refl _ _).drew : Below w10.heap.size w10 _).mono HB.out.size))) HS0.out).mono ?_; rintro e W7 ⟨v7, rfl, o7, hb7⟩; have hc7 := (show Below w10.heap.size w10 W7 by first | with_reducible exact hb7 | with_reducible exact cr_d hb7); have HC7 := Lib.hid hc7; have q_a0 := blk_in B_a0.out hc7; have q_y0 := blk_in B_y0.out hc7; obtain ⟨e7_a0_0, e7_a0_1⟩ := cells2 q_a0; have l7_a0 := lt_of q_a0; have Q7_a0 := Lib.hid q_a0; clear q_a0; obtain ⟨e7_y0_0, e7_y0_1⟩ := cells2 q_y0; have l7_y0 := lt_of q_y0; have Q7_y0 := Lib.hid q_y0; clear q_y0; have V7 := Lib.hid o7.v; have V6 := Lib.hid ((o_y0.out.below hc7).v); clear o7 hb7 hc7) | (go_at_call 17; refine (eqNet_ok _ _ x0 _ V6.out V7.out).mono ?_; rintro e W8 ⟨rfl, hb8⟩; have HC8 := Lib.hid (HC7.out.trans (hb8.mono HC7.out.size)); have q_a0 := blk_in Q7_a0.out hb8; have q_y0 := blk_in Q7_y0.out hb8; obtain ⟨e8_a0_0, e8_a0_1⟩ := cells2 q_a0; have l8_a0 := lt_of q_a0; have Q8_a0 := Lib.hid q_a0; clear q_a0; obtain ⟨e8_y0_0, e8_y0_1⟩ := cells2 q_y0; have l8_y0 := lt_of q_y0; have Q8_y0 := Lib.hid q_y0; clear q_y0; clear hb8))
    all_goals
      go_wp2_with fail
      go_meet
      case rel => exact ⟨rfl, HC8⟩
  rename World => w11
  obtain ⟨rfl, hb11⟩ := hcut
  replace hb11 := hb11.out
  have s11 := Lib.hid (show w10.heap.size ≤ w11.heap.size from hb11.size)
  clear c_a0_0 c_a0_1 l_a0
  clear c_a2_0 c_a2_1 l_a2
  clear c_y0_0 c_y0_1 l_y0
  clear c_y2_0 c_y2_1 l_y2
  replace B_a0 := Lib.hid (blk_in B_a0.out hb11)
  replace B_a2 := Lib.hid (blk_in B_a2.out hb11)
  replace B_y0 := Lib.hid (blk_in B_y0.out hb11)
  replace B_y2 := Lib.hid (blk_in B_y2.out hb11)
  replace o_y0 := Lib.hid (o_y0.out.below hb11)
  replace o_y2 := Lib.hid (o_y2.out.below hb11)
  replace HB := Lib.hid (HB.out.trans (hb11.mono HB.out.size))
  clear hb11
  obtain ⟨c_a0_0, c_a0_1⟩ := cells2 B_a0.out
  have l_a0 := lt_of B_a0.out
  obtain ⟨c_a2_0, c_a2_1⟩ := cells2 B_a2.out
  have l_a2 := lt_of B_a2.out
  obtain ⟨c_y0_0, c_y0_1⟩ := cells2 B_y0.out
  have l_y0 := lt_of B_y0.out
  obtain ⟨c_y2_0, c_y2_1⟩ := cells2 B_y2.out
  have l_y2 := lt_of B_y2.out
  go_upto_region 16 with fail
  go_cut [48] from 49 (fun s wr => s = .bool false ∧ Hid (Below w11.heap.size w11 wr))
  case first =>
    go_region_held3 (fun w' => w'.cell? ⟨w1.heap.size, 0, none⟩ = some (.slice pa2 (x2).progs.length pcap2) ∧ w'.cell? ⟨w1.heap.size, 1, none⟩ = some (.slice la2 (x2).links.length lcap2) ∧ w'.cell? ⟨w8.heap.size, 0, none⟩ = some (.slice a_y2 (x2).progs.length (x2).progs.length) ∧ w'.cell? ⟨w8.heap.size, 1, none⟩ = some (.slice k_y2 (x2).links.length (x2).links.length)) (go_keep) (first | (go_at_call 14; refine (toNet_h _ x2 _ (HA2.out.below (HB.out.trans ((by first | with_reducible exact Below.refl _ _ | with_reducible exact (Below.refl _ _).drew : Below w11.heap.size w11 _).mono HB.out.size))) HS2.out).mono ?_; rintro e W7 ⟨v7, rfl, o7, hb7⟩; have hc7 := (show Below w11.heap.size w11 W7 by first | with_reducible exact hb7 | with_reducible exact cr_d hb7); have HC7 := Lib.hid hc7; have q_a2 := blk_in B_a2.out hc7; have q_y2 := blk_in B_y2.out hc7; obtain ⟨e7_a2_0, e7_a2_1⟩ := cells2 q_a2; have l7_a2 := lt_of q_a2; have Q7_a2 := Lib.hid q_a2; clear q_a2; obtain ⟨e7_y2_0, e7_y2_1⟩ := cells2 q_y2; have l7_y2 := lt_of q_y2; have Q7_y2 := Lib.hid q_y2; clear q_y2; have V7 := Lib.hid o7.v; have V6 := Lib.hid ((o_y2.out.below hc7).v); clear o7 hb7 hc7) | (go_at_call 17; refine (eqNet_ok _ _ x2 _ V6.out V7.out).mono ?_; rintro e W8 ⟨rfl, hb8⟩; have HC8 := Lib.hid (HC7.out.trans (hb8.mono HC7.out.size)); have q_a2 := blk_in Q7_a2.out hb8; have q_y2 := blk_in Q7_y2.out hb8; obtain ⟨e8_a2_0, e8_a2_1⟩ := cells2 q_a2; have l8_a2 := lt_of q_a2; have Q8_a2 := Lib.hid q_a2; clear q_a2; obtain ⟨e8_y2_0, e8_y2_1⟩ := cells2 q_y2; have l8_y2 := lt_of q_y2; have Q8_y2 := Lib.hid q_y2; clear q_y2; clear hb8))
    all_goals
      go_wp2_with fail
      go_meet
      case rel => exact ⟨rfl, HC8⟩
  rename World => w12
  obtain ⟨rfl, hb12⟩ := hcut
  replace hb12 := hb12.out
  have s12 := Lib.hid (show w11.heap.size ≤ w12.heap.size from hb12.size)
  clear c_a0_0 c_a0_1 l_a0
  clear c_a2_0 c_a2_1 l_a2
  clear c_y0_0 c_y0_1 l_y0
  clear c_y2_0 c_y2_1 l_y2
  replace B_a0 := Lib.hid (blk_in B_a0.out hb12)
  replace B_a2 := Lib.hid (blk_in B_a2.out hb12)
  replace B_y0 := Lib.hid (blk_in B_y0.out hb12)
  replace B_y2 := Lib.hid (blk_in B_y2.out hb12)
  replace o_y0 := Lib.hid (o_y0.out.below hb12)
  replace o_y2 := Lib.hid (o_y2.out.below hb12)
  replace HB := Lib.hid (HB.out.trans (hb12.mono HB.out.size))
  clear hb12
  obtain ⟨c_a0_0, c_a0_1⟩ := cells2 B_a0.out
  have l_a0 := lt_of B_a0.out
  obtain ⟨c_a2_0, c_a2_1⟩ := cells2 B_a2.out
  have l_a2 := lt_of B_a2.out
  obtain ⟨c_y0_0, c_y0_1⟩ := cells2 B_y0.out
  have l_y0 := lt_of B_y0.out
  obtain ⟨c_y2_0, c_y2_1⟩ := cells2 B_y2.out
  have l_y2 := lt_of B_y2.out
  go_wp2_with fail
  go_ret
  exact ⟨rfl, HB.out⟩

end Go.Proofs.Ytkeoefbkeommhaa
