/-
  The walk of the law FnExactBlockedOn: it answers true and changes nothing that was there.
-/
import Derived.Test.YtjphamgkigekkaaBlk
import Derived.Test.YtjphamgkigekkaaIsStB
import Derived.Test.YtjphamgkigekkaaStOpen
import Derived.Test.YtjphamgkigekkaaLawKit
import Derived.Deep.Cut
import Derived.Deep.RegionHeld3
namespace Go.Proofs.Ytjphamgkigekkaa
open Go.RowKit

set_option maxRecDepth 100000 in
set_option maxHeartbeats 40000000 in
theorem fnExactBlockedOn_walk (v0 : Value) (x0 : Net) (v1 : Value) (x1 : Stt) (w : World) (h0 : NetV w v0 x0) (h1 : StV w v1 x1) :
    Calls Try.prog 12 #[v0, v1] w fun e w' => e = .returned (.bool true) ∧ Below w.heap.size w w' := by
  have HA0 := Lib.hid h0
  obtain ⟨cp, cl, rfl, hp, hl⟩ := h0
  obtain ⟨pa, pcap, rfl⟩ := hp.shape
  obtain ⟨la, lcap, rfl⟩ := hl.shape
  clear hp hl
  have HA1 := Lib.hid h1
  obtain ⟨sa, sb, sc, sd, se, sf, rfl⟩ := h1.shape
  have BD := Lib.hid (blockedOn_len x0 x1)
  have HB := Lib.hid (Below.refl w.heap.size w)
  go_enter Try.func12, Try.ntmps12
  have HL0 := Lib.hid (show (0 : Int) ≤ 1048576 ∧ (1048576 : Int) ≤ 1048576 by omega)
  go_wp2_with fail
  generalize hw1 : w.alloc (.cells #[.slice pa (x0).progs.length pcap, .slice la (x0).links.length lcap] 25) = w1
  have hb1 : Below w.heap.size w w1 := by rw [← hw1]; exact (Below.refl _ _).al _
  have hn1 : w1.heap[w.heap.size]? = some (.cells #[.slice pa (x0).progs.length pcap, .slice la (x0).links.length lcap] 25) := by rw [← hw1]; exact hp1 _ _
  have hz1 : w.heap.size + 1 = w1.heap.size := by rw [← hw1]; simp
  rw [hz1]
  clear hz1
  clear hw1
  have s1 := Lib.hid (show w.heap.size ≤ w1.heap.size from hb1.size)
  replace HB := Lib.hid (HB.out.trans (hb1.mono HB.out.size))
  have B_a0 := Lib.hid hn1
  have t1 := Lib.hid (lt_of hn1)
  clear hn1 hb1
  obtain ⟨c_a0_0, c_a0_1⟩ := cells2 B_a0.out
  have l_a0 := lt_of B_a0.out
  generalize hw2 : w1.alloc (.cells #[.slice sa (x1).acts.length sb, .slice sc (x1).queues.length sd, .slice se (x1).sent.length sf, .int .i64 (x1).steps] 59) = w2
  have hb2 : Below w1.heap.size w1 w2 := by rw [← hw2]; exact (Below.refl _ _).al _
  have hn2 : w2.heap[w1.heap.size]? = some (.cells #[.slice sa (x1).acts.length sb, .slice sc (x1).queues.length sd, .slice se (x1).sent.length sf, .int .i64 (x1).steps] 59) := by rw [← hw2]; exact hp1 _ _
  clear hw2
  have s2 := Lib.hid (show w1.heap.size ≤ w2.heap.size from hb2.size)
  clear c_a0_0 c_a0_1 l_a0
  replace B_a0 := Lib.hid (blk_in B_a0.out hb2)
  replace HB := Lib.hid (HB.out.trans (hb2.mono HB.out.size))
  have B_a1 := Lib.hid hn2
  have t2 := Lib.hid (lt_of hn2)
  clear hn2 hb2
  obtain ⟨c_a0_0, c_a0_1⟩ := cells2 B_a0.out
  have l_a0 := lt_of B_a0.out
  obtain ⟨c_a1_0, c_a1_1, c_a1_2, c_a1_3⟩ := cells4s B_a1.out
  have l_a1 := lt_of B_a1.out
  go_at_call 15
  by_cases z0 : ((szN x0 : Nat) : Int) ≤ 1048576
  case neg =>
    refine (szNet_any _ x0 (1048576) _ (HA0.out.below HB.out) HL0.out).mono ?_
    rintro e wz ⟨rfl, hb⟩
    rw [if_neg z0]
    go_wp2_with fail
    go_ret
    exact ⟨rfl, HB.out.trans (hb.mono HB.out.size)⟩
  refine (szNet_any _ x0 (1048576) _ (HA0.out.below HB.out) HL0.out).mono ?_
  rintro e w3 ⟨rfl, hb3⟩
  rw [if_pos z0]
  obtain ⟨l1, hl⟩ : ∃ l : Int, l = 1048576 - ((szN x0 : Nat) : Int) := ⟨_, rfl⟩
  rw [← hl]
  have HL1 := Lib.hid (show 0 ≤ l1 ∧ l1 ≤ 1048576 by have := HL0.out; omega)
  have HS0 := Lib.hid (show szN x0 ≤ 1048576 by have := HL0.out; omega)
  have d1 : decide (l1 < 0) = false := decide_eq_false (by have := HL1.out; omega)
  clear hl z0
  have s3 := Lib.hid (show w2.heap.size ≤ w3.heap.size from hb3.size)
  clear c_a0_0 c_a0_1 l_a0
  clear c_a1_0 c_a1_1 c_a1_2 c_a1_3 l_a1
  replace B_a0 := Lib.hid (blk_in B_a0.out hb3)
  replace B_a1 := Lib.hid (blk_in B_a1.out hb3)
  replace HB := Lib.hid (HB.out.trans (hb3.mono HB.out.size))
  clear hb3
  obtain ⟨c_a0_0, c_a0_1⟩ := cells2 B_a0.out
  have l_a0 := lt_of B_a0.out
  obtain ⟨c_a1_0, c_a1_1, c_a1_2, c_a1_3⟩ := cells4s B_a1.out
  have l_a1 := lt_of B_a1.out
  go_wp2_with fail
  go_at_call 42
  by_cases z1 : ((szS x1 : Nat) : Int) ≤ l1
  case neg =>
    refine (szSt_any _ x1 (l1) _ (HA1.out.below HB.out) HL1.out).mono ?_
    rintro e wz ⟨rfl, hb⟩
    rw [if_neg z1]
    go_wp2_with fail
    go_ret
    exact ⟨rfl, HB.out.trans (hb.mono HB.out.size)⟩
  refine (szSt_any _ x1 (l1) _ (HA1.out.below HB.out) HL1.out).mono ?_
  rintro e w4 ⟨rfl, hb4⟩
  rw [if_pos z1]
  obtain ⟨l2, hl⟩ : ∃ l : Int, l = l1 - ((szS x1 : Nat) : Int) := ⟨_, rfl⟩
  rw [← hl]
  have HL2 := Lib.hid (show 0 ≤ l2 ∧ l2 ≤ 1048576 by have := HL1.out; omega)
  have HS1 := Lib.hid (show szS x1 ≤ 1048576 by have := HL1.out; omega)
  have d2 : decide (l2 < 0) = false := decide_eq_false (by have := HL2.out; omega)
  clear hl z1
  have s4 := Lib.hid (show w3.heap.size ≤ w4.heap.size from hb4.size)
  clear c_a0_0 c_a0_1 l_a0
  clear c_a1_0 c_a1_1 c_a1_2 c_a1_3 l_a1
  replace B_a0 := Lib.hid (blk_in B_a0.out hb4)
  replace B_a1 := Lib.hid (blk_in B_a1.out hb4)
  replace HB := Lib.hid (HB.out.trans (hb4.mono HB.out.size))
  clear hb4
  obtain ⟨c_a0_0, c_a0_1⟩ := cells2 B_a0.out
  have l_a0 := lt_of B_a0.out
  obtain ⟨c_a1_0, c_a1_1, c_a1_2, c_a1_3⟩ := cells4s B_a1.out
  have l_a1 := lt_of B_a1.out
  go_upto_region 8 with fail
  go_cut [6] from 92 (fun s6 wr => ∃ (a_r0 : Option Addr) (k_r0 : Nat), s6 = .slice a_r0 ((blockedOnR0 x0 x1)).length k_r0 ∧ Hid (OwnH w4.heap.size wr.heap.size wr (.slice a_r0 ((blockedOnR0 x0 x1)).length k_r0) (blockedOnR0 x0 x1)) ∧ Hid (Below w4.heap.size w4 wr))
  case first =>
    go_region_held3 (fun w' => w'.cell? ⟨w.heap.size, 0, none⟩ = some (.slice pa (x0).progs.length pcap) ∧ w'.cell? ⟨w.heap.size, 1, none⟩ = some (.slice la (x0).links.length lcap) ∧ w'.cell? ⟨w1.heap.size, 0, none⟩ = some (.slice sa (x1).acts.length sb) ∧ w'.cell? ⟨w1.heap.size, 1, none⟩ = some (.slice sc (x1).queues.length sd) ∧ w'.cell? ⟨w1.heap.size, 2, none⟩ = some (.slice se (x1).sent.length sf) ∧ w'.cell? ⟨w1.heap.size, 3, none⟩ = some (.int .i64 (x1).steps)) (go_keep) (first | (go_at_call 18; refine (toNet_h _ x0 _ (HA0.out.below (HB.out.trans ((by first | with_reducible exact Below.refl _ _ | with_reducible exact (Below.refl _ _).drew : Below w4.heap.size w4 _).mono HB.out.size))) HS0.out).mono ?_; rintro e X70 ⟨v70, rfl, ot70, hx70⟩; have hs70 := (show Below w4.heap.size w4 X70 by first | with_reducible exact hx70 | with_reducible exact cr_d hx70); have HC70 := Lib.hid hs70; have Q70_a0 := Lib.hid (blk_in B_a0.out hs70); obtain ⟨e70_a0_0, e70_a0_1⟩ := cells2 Q70_a0.out; have l70_a0 := lt_of Q70_a0.out; have Q70_a1 := Lib.hid (blk_in B_a1.out hs70); obtain ⟨e70_a1_0, e70_a1_1, e70_a1_2, e70_a1_3⟩ := cells4s Q70_a1.out; have l70_a1 := lt_of Q70_a1.out; obtain ⟨ra70, rb70, rfl⟩ := ot70.shape; have T0_70 := Lib.hid ot70; clear ot70 hx70 hs70) | (go_at_call 44; refine (toSt_h _ x1 _ (HA1.out.below (HB.out.trans ((by first | with_reducible exact HC70.out | with_reducible exact HC70.out.drew : Below w4.heap.size w4 _).mono HB.out.size))) HS1.out).mono ?_; rintro e X71 ⟨v71, rfl, ot71, hx71⟩; have hs71 := (show Below X70.heap.size X70 X71 by first | with_reducible exact hx71 | with_reducible exact cr_d hx71); have HC71 := Lib.hid (HC70.out.trans (hs71.mono HC70.out.size)); have Q71_a0 := Lib.hid (blk_in Q70_a0.out hs71); obtain ⟨e71_a0_0, e71_a0_1⟩ := cells2 Q71_a0.out; have l71_a0 := lt_of Q71_a0.out; have Q71_a1 := Lib.hid (blk_in Q70_a1.out hs71); obtain ⟨e71_a1_0, e71_a1_1, e71_a1_2, e71_a1_3⟩ := cells4s Q71_a1.out; have l71_a1 := lt_of Q71_a1.out; have T0_71 := Lib.hid (T0_70.out.below hs71); obtain ⟨ra71, rb71, rc71, rd71, re71, rf71, rfl⟩ := ot71.shape; have T1_71 := Lib.hid ot71; clear ot71 hx71 hs71) | (go_at_call 50; refine (sblocked_w _ x0 _ x1 _ (by first | with_reducible exact T0_71.out.v | with_reducible exact (T0_71.out.below (Below.refl _ _).drew).v) (by first | with_reducible exact T1_71.out.v | with_reducible exact (T1_71.out.below (Below.refl _ _).drew).v)).mono ?_; rintro e X79 ⟨v_r0, rfl, og, hx79⟩; have hs79 := (show Below X71.heap.size X71 X79 by first | with_reducible exact hx79 | with_reducible exact cr_d hx79); have HC79 := Lib.hid (HC71.out.trans (hs79.mono HC71.out.size)); have Q79_a0 := Lib.hid (blk_in Q71_a0.out hs79); obtain ⟨e79_a0_0, e79_a0_1⟩ := cells2 Q79_a0.out; have l79_a0 := lt_of Q79_a0.out; have Q79_a1 := Lib.hid (blk_in Q71_a1.out hs79); obtain ⟨e79_a1_0, e79_a1_1, e79_a1_2, e79_a1_3⟩ := cells4s Q79_a1.out; have l79_a1 := lt_of Q79_a1.out; have T0_79 := Lib.hid (T0_71.out.below hs79); have T1_79 := Lib.hid (T1_71.out.below hs79); obtain ⟨a_r0, k_r0, rfl⟩ := og.shape; have OG := Lib.hid (ownH_lo (lo' := w4.heap.size) (by first | exact HC71.out.size | exact HC71.out.drew.size) og); clear og; clear hx79 hs79))
    all_goals
      go_wp2_with fail
      go_meet
      case rel => exact ⟨_, _, rfl, (by first | with_reducible exact OG | with_reducible exact Lib.hid (OG.out.below (Below.refl _ _).drew)), (by first | with_reducible exact HC79 | with_reducible exact Lib.hid HC79.out.drew)⟩
  rename World => w5
  obtain ⟨a_r0, k_r0, rfl, o_r, hb5⟩ := hcut
  replace hb5 := hb5.out
  have s5 := Lib.hid (show w4.heap.size ≤ w5.heap.size from hb5.size)
  clear c_a0_0 c_a0_1 l_a0
  clear c_a1_0 c_a1_1 c_a1_2 c_a1_3 l_a1
  replace B_a0 := Lib.hid (blk_in B_a0.out hb5)
  replace B_a1 := Lib.hid (blk_in B_a1.out hb5)
  replace HB := Lib.hid (HB.out.trans (hb5.mono HB.out.size))
  clear hb5
  obtain ⟨c_a0_0, c_a0_1⟩ := cells2 B_a0.out
  have l_a0 := lt_of B_a0.out
  obtain ⟨c_a1_0, c_a1_1, c_a1_2, c_a1_3⟩ := cells4s B_a1.out
  have l_a1 := lt_of B_a1.out
  go_wp2_with fail
  go_at_call 18
  refine (toNet_h _ x0 _ (HA0.out.below HB.out) HS0.out).mono ?_
  rintro e w6 ⟨v_y0, rfl, o_y0, hb6⟩
  have s6 := Lib.hid (show w5.heap.size ≤ w6.heap.size from hb6.size)
  clear c_a0_0 c_a0_1 l_a0
  clear c_a1_0 c_a1_1 c_a1_2 c_a1_3 l_a1
  replace B_a0 := Lib.hid (blk_in B_a0.out hb6)
  replace B_a1 := Lib.hid (blk_in B_a1.out hb6)
  replace o_r := Lib.hid (o_r.out.below hb6)
  replace HB := Lib.hid (HB.out.trans (hb6.mono HB.out.size))
  obtain ⟨a_y0, k_y0, rfl⟩ := o_y0.shape
  replace o_y0 := Lib.hid o_y0
  clear hb6
  obtain ⟨c_a0_0, c_a0_1⟩ := cells2 B_a0.out
  have l_a0 := lt_of B_a0.out
  obtain ⟨c_a1_0, c_a1_1, c_a1_2, c_a1_3⟩ := cells4s B_a1.out
  have l_a1 := lt_of B_a1.out
  go_wp2_with fail
  generalize hw7 : w6.alloc (.cells #[.slice a_y0 (x0).progs.length (x0).progs.length, .slice k_y0 (x0).links.length (x0).links.length] 34) = w7
  have hb7 : Below w6.heap.size w6 w7 := by rw [← hw7]; exact (Below.refl _ _).al _
  have hn7 : w7.heap[w6.heap.size]? = some (.cells #[.slice a_y0 (x0).progs.length (x0).progs.length, .slice k_y0 (x0).links.length (x0).links.length] 34) := by rw [← hw7]; exact hp1 _ _
  clear hw7
  have s7 := Lib.hid (show w6.heap.size ≤ w7.heap.size from hb7.size)
  clear c_a0_0 c_a0_1 l_a0
  clear c_a1_0 c_a1_1 c_a1_2 c_a1_3 l_a1
  replace B_a0 := Lib.hid (blk_in B_a0.out hb7)
  replace B_a1 := Lib.hid (blk_in B_a1.out hb7)
  replace o_r := Lib.hid (o_r.out.below hb7)
  replace o_y0 := Lib.hid (o_y0.out.below hb7)
  replace HB := Lib.hid (HB.out.trans (hb7.mono HB.out.size))
  have B_y0 := Lib.hid hn7
  have t7 := Lib.hid (lt_of hn7)
  clear hn7 hb7
  obtain ⟨c_a0_0, c_a0_1⟩ := cells2 B_a0.out
  have l_a0 := lt_of B_a0.out
  obtain ⟨c_a1_0, c_a1_1, c_a1_2, c_a1_3⟩ := cells4s B_a1.out
  have l_a1 := lt_of B_a1.out
  obtain ⟨c_y0_0, c_y0_1⟩ := cells2 B_y0.out
  have l_y0 := lt_of B_y0.out
  go_wp2_with fail
  go_at_call 44
  refine (toSt_h _ x1 _ (HA1.out.below HB.out) HS1.out).mono ?_
  rintro e w8 ⟨v_y1, rfl, o_y1, hb8⟩
  have s8 := Lib.hid (show w7.heap.size ≤ w8.heap.size from hb8.size)
  clear c_a0_0 c_a0_1 l_a0
  clear c_a1_0 c_a1_1 c_a1_2 c_a1_3 l_a1
  clear c_y0_0 c_y0_1 l_y0
  replace B_a0 := Lib.hid (blk_in B_a0.out hb8)
  replace B_a1 := Lib.hid (blk_in B_a1.out hb8)
  replace B_y0 := Lib.hid (blk_in B_y0.out hb8)
  replace o_r := Lib.hid (o_r.out.below hb8)
  replace o_y0 := Lib.hid (o_y0.out.below hb8)
  replace HB := Lib.hid (HB.out.trans (hb8.mono HB.out.size))
  obtain ⟨a_y1, b_y1, c_y1, d_y1, e_y1, f_y1, rfl⟩ := o_y1.shape
  replace o_y1 := Lib.hid o_y1
  clear hb8
  obtain ⟨c_a0_0, c_a0_1⟩ := cells2 B_a0.out
  have l_a0 := lt_of B_a0.out
  obtain ⟨c_a1_0, c_a1_1, c_a1_2, c_a1_3⟩ := cells4s B_a1.out
  have l_a1 := lt_of B_a1.out
  obtain ⟨c_y0_0, c_y0_1⟩ := cells2 B_y0.out
  have l_y0 := lt_of B_y0.out
  go_wp2_with fail
  generalize hw9 : w8.alloc (.cells #[.slice a_y1 (x1).acts.length b_y1, .slice c_y1 (x1).queues.length d_y1, .slice e_y1 (x1).sent.length f_y1, .int .i64 (x1).steps] 53) = w9
  have hb9 : Below w8.heap.size w8 w9 := by rw [← hw9]; exact (Below.refl _ _).al _
  have hn9 : w9.heap[w8.heap.size]? = some (.cells #[.slice a_y1 (x1).acts.length b_y1, .slice c_y1 (x1).queues.length d_y1, .slice e_y1 (x1).sent.length f_y1, .int .i64 (x1).steps] 53) := by rw [← hw9]; exact hp1 _ _
  clear hw9
  have s9 := Lib.hid (show w8.heap.size ≤ w9.heap.size from hb9.size)
  clear c_a0_0 c_a0_1 l_a0
  clear c_a1_0 c_a1_1 c_a1_2 c_a1_3 l_a1
  clear c_y0_0 c_y0_1 l_y0
  replace B_a0 := Lib.hid (blk_in B_a0.out hb9)
  replace B_a1 := Lib.hid (blk_in B_a1.out hb9)
  replace B_y0 := Lib.hid (blk_in B_y0.out hb9)
  replace o_r := Lib.hid (o_r.out.below hb9)
  replace o_y0 := Lib.hid (o_y0.out.below hb9)
  replace o_y1 := Lib.hid (o_y1.out.below hb9)
  replace HB := Lib.hid (HB.out.trans (hb9.mono HB.out.size))
  have B_y1 := Lib.hid hn9
  have t9 := Lib.hid (lt_of hn9)
  clear hn9 hb9
  obtain ⟨c_a0_0, c_a0_1⟩ := cells2 B_a0.out
  have l_a0 := lt_of B_a0.out
  obtain ⟨c_a1_0, c_a1_1, c_a1_2, c_a1_3⟩ := cells4s B_a1.out
  have l_a1 := lt_of B_a1.out
  obtain ⟨c_y0_0, c_y0_1⟩ := cells2 B_y0.out
  have l_y0 := lt_of B_y0.out
  obtain ⟨c_y1_0, c_y1_1, c_y1_2, c_y1_3⟩ := cells4s B_y1.out
  have l_y1 := lt_of B_y1.out
  go_wp2_with fail
  go_at_call 51
  refine (iblocked_w _ x0 _ x1 _ o_y0.out.v o_y1.out.v).mono ?_
  rintro e w10 ⟨v_g0, rfl, o_g, hb10⟩
  have s10 := Lib.hid (show w9.heap.size ≤ w10.heap.size from hb10.size)
  clear c_a0_0 c_a0_1 l_a0
  clear c_a1_0 c_a1_1 c_a1_2 c_a1_3 l_a1
  clear c_y0_0 c_y0_1 l_y0
  clear c_y1_0 c_y1_1 c_y1_2 c_y1_3 l_y1
  replace B_a0 := Lib.hid (blk_in B_a0.out hb10)
  replace B_a1 := Lib.hid (blk_in B_a1.out hb10)
  replace B_y0 := Lib.hid (blk_in B_y0.out hb10)
  replace B_y1 := Lib.hid (blk_in B_y1.out hb10)
  replace o_r := Lib.hid (o_r.out.below hb10)
  replace o_y0 := Lib.hid (o_y0.out.below hb10)
  replace o_y1 := Lib.hid (o_y1.out.below hb10)
  replace HB := Lib.hid (HB.out.trans (hb10.mono HB.out.size))
  obtain ⟨a_g0, k_g0, rfl⟩ := o_g.shape
  replace o_g := Lib.hid o_g
  clear hb10
  obtain ⟨c_a0_0, c_a0_1⟩ := cells2 B_a0.out
  have l_a0 := lt_of B_a0.out
  obtain ⟨c_a1_0, c_a1_1, c_a1_2, c_a1_3⟩ := cells4s B_a1.out
  have l_a1 := lt_of B_a1.out
  obtain ⟨c_y0_0, c_y0_1⟩ := cells2 B_y0.out
  have l_y0 := lt_of B_y0.out
  obtain ⟨c_y1_0, c_y1_1, c_y1_2, c_y1_3⟩ := cells4s B_y1.out
  have l_y1 := lt_of B_y1.out
  go_wp2_with fail
  go_at_call 34
  refine (eqS_ok _ _ (blockedOnR0 x0 x1) _ o_g.out.v o_r.out.v).mono ?_
  rintro e w11 ⟨rfl, hb11⟩
  have s11 := Lib.hid (show w10.heap.size ≤ w11.heap.size from hb11.size)
  clear c_a0_0 c_a0_1 l_a0
  clear c_a1_0 c_a1_1 c_a1_2 c_a1_3 l_a1
  clear c_y0_0 c_y0_1 l_y0
  clear c_y1_0 c_y1_1 c_y1_2 c_y1_3 l_y1
  replace B_a0 := Lib.hid (blk_in B_a0.out hb11)
  replace B_a1 := Lib.hid (blk_in B_a1.out hb11)
  replace B_y0 := Lib.hid (blk_in B_y0.out hb11)
  replace B_y1 := Lib.hid (blk_in B_y1.out hb11)
  replace o_r := Lib.hid (o_r.out.below hb11)
  replace o_y0 := Lib.hid (o_y0.out.below hb11)
  replace o_y1 := Lib.hid (o_y1.out.below hb11)
  replace o_g := Lib.hid (o_g.out.below hb11)
  replace HB := Lib.hid (HB.out.trans (hb11.mono HB.out.size))
  clear hb11
  obtain ⟨c_a0_0, c_a0_1⟩ := cells2 B_a0.out
  have l_a0 := lt_of B_a0.out
  obtain ⟨c_a1_0, c_a1_1, c_a1_2, c_a1_3⟩ := cells4s B_a1.out
  have l_a1 := lt_of B_a1.out
  obtain ⟨c_y0_0, c_y0_1⟩ := cells2 B_y0.out
  have l_y0 := lt_of B_y0.out
  obtain ⟨c_y1_0, c_y1_1, c_y1_2, c_y1_3⟩ := cells4s B_y1.out
  have l_y1 := lt_of B_y1.out
  go_upto_region 14 with fail
  go_cut [44] from 92 (fun s wr => s = .bool false ∧ Hid (Below w11.heap.size w11 wr))
  case first =>
    go_region_held3 (fun w' => w'.cell? ⟨w.heap.size, 0, none⟩ = some (.slice pa (x0).progs.length pcap) ∧ w'.cell? ⟨w.heap.size, 1, none⟩ = some (.slice la (x0).links.length lcap) ∧ w'.cell? ⟨w6.heap.size, 0, none⟩ = some (.slice a_y0 (x0).progs.length (x0).progs.length) ∧ w'.cell? ⟨w6.heap.size, 1, none⟩ = some (.slice k_y0 (x0).links.length (x0).links.length)) (go_keep) (first | (go_at_call 18; refine (toNet_h _ x0 _ (HA0.out.below (HB.out.trans ((by first | with_reducible exact Below.refl _ _ | with_reducible exact (Below.refl _ _).drew : Below w11.heap.size w11 _).mono HB.out.size))) HS0.out).mono ?_; rintro e W7 ⟨v7, rfl, o7, hb7⟩; have hc7 := (show Below w11.heap.size w11 W7 by first | with_reducible exact hb7 | with_reducible exact cr_d hb7); have HC7 := Lib.hid hc7; have q_a0 := blk_in B_a0.out hc7; have q_y0 := blk_in B_y0.out hc7; obtain ⟨e7_a0_0, e7_a0_1⟩ := cells2 q_a0; have l7_a0 := lt_of q_a0; have Q7_a0 := Lib.hid q_a0; clear q_a0; obtain ⟨e7_y0_0, e7_y0_1⟩ := cells2 q_y0; have l7_y0 := lt_of q_y0; have Q7_y0 := Lib.hid q_y0; clear q_y0; have V7 := Lib.hid o7.v; have V6 := Lib.hid ((o_y0.out.below hc7).v); clear o7 hb7 hc7) | (go_at_call 22; refine (eqNet_ok _ _ x0 _ V6.out V7.out).mono ?_; rintro e W8 ⟨rfl, hb8⟩; have HC8 := Lib.hid (HC7.out.trans (hb8.mono HC7.out.size)); have q_a0 := blk_in Q7_a0.out hb8; have q_y0 := blk_in Q7_y0.out hb8; obtain ⟨e8_a0_0, e8_a0_1⟩ := cells2 q_a0; have l8_a0 := lt_of q_a0; have Q8_a0 := Lib.hid q_a0; clear q_a0; obtain ⟨e8_y0_0, e8_y0_1⟩ := cells2 q_y0; have l8_y0 := lt_of q_y0; have Q8_y0 := Lib.hid q_y0; clear q_y0; clear hb8))
    all_goals
      go_wp2_with fail
      go_meet
      case rel => exact ⟨rfl, HC8⟩
  rename World => w12
  obtain ⟨rfl, hb12⟩ := hcut
  replace hb12 := hb12.out
  have s12 := Lib.hid (show w11.heap.size ≤ w12.heap.size from hb12.size)
  clear c_a0_0 c_a0_1 l_a0
  clear c_a1_0 c_a1_1 c_a1_2 c_a1_3 l_a1
  clear c_y0_0 c_y0_1 l_y0
  clear c_y1_0 c_y1_1 c_y1_2 c_y1_3 l_y1
  replace B_a0 := Lib.hid (blk_in B_a0.out hb12)
  replace B_a1 := Lib.hid (blk_in B_a1.out hb12)
  replace B_y0 := Lib.hid (blk_in B_y0.out hb12)
  replace B_y1 := Lib.hid (blk_in B_y1.out hb12)
  replace o_r := Lib.hid (o_r.out.below hb12)
  replace o_y0 := Lib.hid (o_y0.out.below hb12)
  replace o_y1 := Lib.hid (o_y1.out.below hb12)
  replace o_g := Lib.hid (o_g.out.below hb12)
  replace HB := Lib.hid (HB.out.trans (hb12.mono HB.out.size))
  clear hb12
  obtain ⟨c_a0_0, c_a0_1⟩ := cells2 B_a0.out
  have l_a0 := lt_of B_a0.out
  obtain ⟨c_a1_0, c_a1_1, c_a1_2, c_a1_3⟩ := cells4s B_a1.out
  have l_a1 := lt_of B_a1.out
  obtain ⟨c_y0_0, c_y0_1⟩ := cells2 B_y0.out
  have l_y0 := lt_of B_y0.out
  obtain ⟨c_y1_0, c_y1_1, c_y1_2, c_y1_3⟩ := cells4s B_y1.out
  have l_y1 := lt_of B_y1.out
  go_upto_region 16 with fail
  go_cut [49] from 92 (fun s wr => s = .bool false ∧ Hid (Below w12.heap.size w12 wr))
  case first =>
    go_region_held3 (fun w' => w'.cell? ⟨w1.heap.size, 0, none⟩ = some (.slice sa (x1).acts.length sb) ∧ w'.cell? ⟨w1.heap.size, 1, none⟩ = some (.slice sc (x1).queues.length sd) ∧ w'.cell? ⟨w1.heap.size, 2, none⟩ = some (.slice se (x1).sent.length sf) ∧ w'.cell? ⟨w1.heap.size, 3, none⟩ = some (.int .i64 (x1).steps) ∧ w'.cell? ⟨w8.heap.size, 0, none⟩ = some (.slice a_y1 (x1).acts.length b_y1) ∧ w'.cell? ⟨w8.heap.size, 1, none⟩ = some (.slice c_y1 (x1).queues.length d_y1) ∧ w'.cell? ⟨w8.heap.size, 2, none⟩ = some (.slice e_y1 (x1).sent.length f_y1) ∧ w'.cell? ⟨w8.heap.size, 3, none⟩ = some (.int .i64 (x1).steps)) (go_keep) (first | (go_at_call 44; refine (toSt_h _ x1 _ (HA1.out.below (HB.out.trans ((by first | with_reducible exact Below.refl _ _ | with_reducible exact (Below.refl _ _).drew : Below w12.heap.size w12 _).mono HB.out.size))) HS1.out).mono ?_; rintro e W7 ⟨v7, rfl, o7, hb7⟩; have hc7 := (show Below w12.heap.size w12 W7 by first | with_reducible exact hb7 | with_reducible exact cr_d hb7); have HC7 := Lib.hid hc7; have q_a1 := blk_in B_a1.out hc7; have q_y1 := blk_in B_y1.out hc7; obtain ⟨e7_a1_0, e7_a1_1, e7_a1_2, e7_a1_3⟩ := cells4s q_a1; have l7_a1 := lt_of q_a1; have Q7_a1 := Lib.hid q_a1; clear q_a1; obtain ⟨e7_y1_0, e7_y1_1, e7_y1_2, e7_y1_3⟩ := cells4s q_y1; have l7_y1 := lt_of q_y1; have Q7_y1 := Lib.hid q_y1; clear q_y1; have V7 := Lib.hid o7.v; have V6 := Lib.hid ((o_y1.out.below hc7).v); clear o7 hb7 hc7) | (go_at_call 39; refine (eqSt_ok _ _ x1 _ V6.out V7.out).mono ?_; rintro e W8 ⟨rfl, hb8⟩; have HC8 := Lib.hid (HC7.out.trans (hb8.mono HC7.out.size)); have q_a1 := blk_in Q7_a1.out hb8; have q_y1 := blk_in Q7_y1.out hb8; obtain ⟨e8_a1_0, e8_a1_1, e8_a1_2, e8_a1_3⟩ := cells4s q_a1; have l8_a1 := lt_of q_a1; have Q8_a1 := Lib.hid q_a1; clear q_a1; obtain ⟨e8_y1_0, e8_y1_1, e8_y1_2, e8_y1_3⟩ := cells4s q_y1; have l8_y1 := lt_of q_y1; have Q8_y1 := Lib.hid q_y1; clear q_y1; clear hb8))
    all_goals
      go_wp2_with fail
      go_meet
      case rel => exact ⟨rfl, HC8⟩
  rename World => w13
  obtain ⟨rfl, hb13⟩ := hcut
  replace hb13 := hb13.out
  have s13 := Lib.hid (show w12.heap.size ≤ w13.heap.size from hb13.size)
  clear c_a0_0 c_a0_1 l_a0
  clear c_a1_0 c_a1_1 c_a1_2 c_a1_3 l_a1
  clear c_y0_0 c_y0_1 l_y0
  clear c_y1_0 c_y1_1 c_y1_2 c_y1_3 l_y1
  replace B_a0 := Lib.hid (blk_in B_a0.out hb13)
  replace B_a1 := Lib.hid (blk_in B_a1.out hb13)
  replace B_y0 := Lib.hid (blk_in B_y0.out hb13)
  replace B_y1 := Lib.hid (blk_in B_y1.out hb13)
  replace o_r := Lib.hid (o_r.out.below hb13)
  replace o_y0 := Lib.hid (o_y0.out.below hb13)
  replace o_y1 := Lib.hid (o_y1.out.below hb13)
  replace o_g := Lib.hid (o_g.out.below hb13)
  replace HB := Lib.hid (HB.out.trans (hb13.mono HB.out.size))
  clear hb13
  obtain ⟨c_a0_0, c_a0_1⟩ := cells2 B_a0.out
  have l_a0 := lt_of B_a0.out
  obtain ⟨c_a1_0, c_a1_1, c_a1_2, c_a1_3⟩ := cells4s B_a1.out
  have l_a1 := lt_of B_a1.out
  obtain ⟨c_y0_0, c_y0_1⟩ := cells2 B_y0.out
  have l_y0 := lt_of B_y0.out
  obtain ⟨c_y1_0, c_y1_1, c_y1_2, c_y1_3⟩ := cells4s B_y1.out
  have l_y1 := lt_of B_y1.out
  go_wp2_with fail
  go_at_call 23
  refine (markNet_h (w5.heap.size) (w6.heap.size) _ x0 (1) _ o_y0.out (by omega) (by have := HS0.out; have := HS1.out; have := stN_le x0; have : stS x1 = sumA (x1).acts + sumT (x1).queues + sumT (x1).sent := rfl; have : szS x1 = sumA (x1).acts + (sumR (x1).queues + sumR (x1).sent) := rfl; have := sumT_le_R (x1).queues; have := sumT_le_R (x1).sent; omega)).mono ?_
  rintro e w14 ⟨rfl, hO14⟩
  have s14 := Lib.hid (show w13.heap.size ≤ w14.heap.size from hO14.size)
  clear c_a0_0 c_a0_1 l_a0
  clear c_a1_0 c_a1_1 c_a1_2 c_a1_3 l_a1
  clear c_y0_0 c_y0_1 l_y0
  clear c_y1_0 c_y1_1 c_y1_2 c_y1_3 l_y1
  replace B_a0 := Lib.hid (hO14.blk B_a0.out (by have := s1.out; have := t1.out; have := s2.out; have := t2.out; have := s3.out; have := s4.out; have := s5.out; have := s6.out; have := s7.out; have := t7.out; have := s8.out; have := s9.out; have := t9.out; have := s10.out; have := s11.out; have := s12.out; have := s13.out; omega))
  replace B_a1 := Lib.hid (hO14.blk B_a1.out (by have := s1.out; have := t1.out; have := s2.out; have := t2.out; have := s3.out; have := s4.out; have := s5.out; have := s6.out; have := s7.out; have := t7.out; have := s8.out; have := s9.out; have := t9.out; have := s10.out; have := s11.out; have := s12.out; have := s13.out; omega))
  replace B_y0 := Lib.hid (hO14.blk B_y0.out (by have := s1.out; have := t1.out; have := s2.out; have := t2.out; have := s3.out; have := s4.out; have := s5.out; have := s6.out; have := s7.out; have := t7.out; have := s8.out; have := s9.out; have := t9.out; have := s10.out; have := s11.out; have := s12.out; have := s13.out; omega))
  replace B_y1 := Lib.hid (hO14.blk B_y1.out (by have := s1.out; have := t1.out; have := s2.out; have := t2.out; have := s3.out; have := s4.out; have := s5.out; have := s6.out; have := s7.out; have := t7.out; have := s8.out; have := s9.out; have := t9.out; have := s10.out; have := s11.out; have := s12.out; have := s13.out; omega))
  replace o_r := Lib.hid (o_r.out.out hO14 (by have := s1.out; have := t1.out; have := s2.out; have := t2.out; have := s3.out; have := s4.out; have := s5.out; have := s6.out; have := s7.out; have := t7.out; have := s8.out; have := s9.out; have := t9.out; have := s10.out; have := s11.out; have := s12.out; have := s13.out; omega))
  replace o_y1 := Lib.hid (o_y1.out.out hO14 (by have := s1.out; have := t1.out; have := s2.out; have := t2.out; have := s3.out; have := s4.out; have := s5.out; have := s6.out; have := s7.out; have := t7.out; have := s8.out; have := s9.out; have := t9.out; have := s10.out; have := s11.out; have := s12.out; have := s13.out; omega))
  replace o_g := Lib.hid (o_g.out.out hO14 (by have := s1.out; have := t1.out; have := s2.out; have := t2.out; have := s3.out; have := s4.out; have := s5.out; have := s6.out; have := s7.out; have := t7.out; have := s8.out; have := s9.out; have := t9.out; have := s10.out; have := s11.out; have := s12.out; have := s13.out; omega))
  replace HB := Lib.hid (hO14.below HB.out HB.out.size (by have := s1.out; have := t1.out; have := s2.out; have := t2.out; have := s3.out; have := s4.out; have := s5.out; have := s6.out; have := s7.out; have := t7.out; have := s8.out; have := s9.out; have := t9.out; have := s10.out; have := s11.out; have := s12.out; have := s13.out; omega))
  clear hO14
  obtain ⟨c_a0_0, c_a0_1⟩ := cells2 B_a0.out
  have l_a0 := lt_of B_a0.out
  obtain ⟨c_a1_0, c_a1_1, c_a1_2, c_a1_3⟩ := cells4s B_a1.out
  have l_a1 := lt_of B_a1.out
  obtain ⟨c_y0_0, c_y0_1⟩ := cells2 B_y0.out
  have l_y0 := lt_of B_y0.out
  obtain ⟨c_y1_0, c_y1_1, c_y1_2, c_y1_3⟩ := cells4s B_y1.out
  have l_y1 := lt_of B_y1.out
  clear o_y0
  go_wp2_with fail
  go_at_call 40
  refine (markSt_h (w7.heap.size) (w8.heap.size) _ x1 (1 + ((stN x0 : Nat) : Int)) _ o_y1.out (by omega) (by have := HS0.out; have := HS1.out; have := stN_le x0; have : stS x1 = sumA (x1).acts + sumT (x1).queues + sumT (x1).sent := rfl; have : szS x1 = sumA (x1).acts + (sumR (x1).queues + sumR (x1).sent) := rfl; have := sumT_le_R (x1).queues; have := sumT_le_R (x1).sent; omega)).mono ?_
  rintro e w15 ⟨rfl, hO15⟩
  have s15 := Lib.hid (show w14.heap.size ≤ w15.heap.size from hO15.size)
  clear c_a0_0 c_a0_1 l_a0
  clear c_a1_0 c_a1_1 c_a1_2 c_a1_3 l_a1
  clear c_y0_0 c_y0_1 l_y0
  clear c_y1_0 c_y1_1 c_y1_2 c_y1_3 l_y1
  replace B_a0 := Lib.hid (hO15.blk B_a0.out (by have := s1.out; have := t1.out; have := s2.out; have := t2.out; have := s3.out; have := s4.out; have := s5.out; have := s6.out; have := s7.out; have := t7.out; have := s8.out; have := s9.out; have := t9.out; have := s10.out; have := s11.out; have := s12.out; have := s13.out; have := s14.out; omega))
  replace B_a1 := Lib.hid (hO15.blk B_a1.out (by have := s1.out; have := t1.out; have := s2.out; have := t2.out; have := s3.out; have := s4.out; have := s5.out; have := s6.out; have := s7.out; have := t7.out; have := s8.out; have := s9.out; have := t9.out; have := s10.out; have := s11.out; have := s12.out; have := s13.out; have := s14.out; omega))
  replace B_y0 := Lib.hid (hO15.blk B_y0.out (by have := s1.out; have := t1.out; have := s2.out; have := t2.out; have := s3.out; have := s4.out; have := s5.out; have := s6.out; have := s7.out; have := t7.out; have := s8.out; have := s9.out; have := t9.out; have := s10.out; have := s11.out; have := s12.out; have := s13.out; have := s14.out; omega))
  replace B_y1 := Lib.hid (hO15.blk B_y1.out (by have := s1.out; have := t1.out; have := s2.out; have := t2.out; have := s3.out; have := s4.out; have := s5.out; have := s6.out; have := s7.out; have := t7.out; have := s8.out; have := s9.out; have := t9.out; have := s10.out; have := s11.out; have := s12.out; have := s13.out; have := s14.out; omega))
  replace o_r := Lib.hid (o_r.out.out hO15 (by have := s1.out; have := t1.out; have := s2.out; have := t2.out; have := s3.out; have := s4.out; have := s5.out; have := s6.out; have := s7.out; have := t7.out; have := s8.out; have := s9.out; have := t9.out; have := s10.out; have := s11.out; have := s12.out; have := s13.out; have := s14.out; omega))
  replace o_g := Lib.hid (o_g.out.out hO15 (by have := s1.out; have := t1.out; have := s2.out; have := t2.out; have := s3.out; have := s4.out; have := s5.out; have := s6.out; have := s7.out; have := t7.out; have := s8.out; have := s9.out; have := t9.out; have := s10.out; have := s11.out; have := s12.out; have := s13.out; have := s14.out; omega))
  replace HB := Lib.hid (hO15.below HB.out HB.out.size (by have := s1.out; have := t1.out; have := s2.out; have := t2.out; have := s3.out; have := s4.out; have := s5.out; have := s6.out; have := s7.out; have := t7.out; have := s8.out; have := s9.out; have := t9.out; have := s10.out; have := s11.out; have := s12.out; have := s13.out; have := s14.out; omega))
  clear hO15
  obtain ⟨c_a0_0, c_a0_1⟩ := cells2 B_a0.out
  have l_a0 := lt_of B_a0.out
  obtain ⟨c_a1_0, c_a1_1, c_a1_2, c_a1_3⟩ := cells4s B_a1.out
  have l_a1 := lt_of B_a1.out
  obtain ⟨c_y0_0, c_y0_1⟩ := cells2 B_y0.out
  have l_y0 := lt_of B_y0.out
  obtain ⟨c_y1_0, c_y1_1, c_y1_2, c_y1_3⟩ := cells4s B_y1.out
  have l_y1 := lt_of B_y1.out
  clear o_y1
  have dk : decide (1 + ((stN x0 : Nat) : Int) + ((stS x1 : Nat) : Int) < 0) = false := decide_eq_false (by omega)
  go_wp2_with fail
  go_at_call 34
  refine (eqS_ok _ _ (blockedOnR0 x0 x1) _ o_g.out.v o_r.out.v).mono ?_
  rintro e w16 ⟨rfl, hb16⟩
  have s16 := Lib.hid (show w15.heap.size ≤ w16.heap.size from hb16.size)
  clear c_a0_0 c_a0_1 l_a0
  clear c_a1_0 c_a1_1 c_a1_2 c_a1_3 l_a1
  clear c_y0_0 c_y0_1 l_y0
  clear c_y1_0 c_y1_1 c_y1_2 c_y1_3 l_y1
  replace B_a0 := Lib.hid (blk_in B_a0.out hb16)
  replace B_a1 := Lib.hid (blk_in B_a1.out hb16)
  replace B_y0 := Lib.hid (blk_in B_y0.out hb16)
  replace B_y1 := Lib.hid (blk_in B_y1.out hb16)
  replace o_r := Lib.hid (o_r.out.below hb16)
  replace o_g := Lib.hid (o_g.out.below hb16)
  replace HB := Lib.hid (HB.out.trans (hb16.mono HB.out.size))
  clear hb16
  obtain ⟨c_a0_0, c_a0_1⟩ := cells2 B_a0.out
  have l_a0 := lt_of B_a0.out
  obtain ⟨c_a1_0, c_a1_1, c_a1_2, c_a1_3⟩ := cells4s B_a1.out
  have l_a1 := lt_of B_a1.out
  obtain ⟨c_y0_0, c_y0_1⟩ := cells2 B_y0.out
  have l_y0 := lt_of B_y0.out
  obtain ⟨c_y1_0, c_y1_1, c_y1_2, c_y1_3⟩ := cells4s B_y1.out
  have l_y1 := lt_of B_y1.out
  go_wp2_with fail
  go_at_call 35
  refine (mark_h (w9.heap.size) (w10.heap.size) _ (blockedOnR0 x0 x1) (1) _ o_g.out (by omega) (by have := BD.out; omega)).mono ?_
  rintro e w17 ⟨rfl, m_g, hO17⟩
  have s17 := Lib.hid (show w16.heap.size ≤ w17.heap.size from hO17.size)
  clear c_a0_0 c_a0_1 l_a0
  clear c_a1_0 c_a1_1 c_a1_2 c_a1_3 l_a1
  clear c_y0_0 c_y0_1 l_y0
  clear c_y1_0 c_y1_1 c_y1_2 c_y1_3 l_y1
  replace B_a0 := Lib.hid (hO17.blk B_a0.out (by have := s1.out; have := t1.out; have := s2.out; have := t2.out; have := s3.out; have := s4.out; have := s5.out; have := s6.out; have := s7.out; have := t7.out; have := s8.out; have := s9.out; have := t9.out; have := s10.out; have := s11.out; have := s12.out; have := s13.out; have := s14.out; have := s15.out; have := s16.out; omega))
  replace B_a1 := Lib.hid (hO17.blk B_a1.out (by have := s1.out; have := t1.out; have := s2.out; have := t2.out; have := s3.out; have := s4.out; have := s5.out; have := s6.out; have := s7.out; have := t7.out; have := s8.out; have := s9.out; have := t9.out; have := s10.out; have := s11.out; have := s12.out; have := s13.out; have := s14.out; have := s15.out; have := s16.out; omega))
  replace B_y0 := Lib.hid (hO17.blk B_y0.out (by have := s1.out; have := t1.out; have := s2.out; have := t2.out; have := s3.out; have := s4.out; have := s5.out; have := s6.out; have := s7.out; have := t7.out; have := s8.out; have := s9.out; have := t9.out; have := s10.out; have := s11.out; have := s12.out; have := s13.out; have := s14.out; have := s15.out; have := s16.out; omega))
  replace B_y1 := Lib.hid (hO17.blk B_y1.out (by have := s1.out; have := t1.out; have := s2.out; have := t2.out; have := s3.out; have := s4.out; have := s5.out; have := s6.out; have := s7.out; have := t7.out; have := s8.out; have := s9.out; have := t9.out; have := s10.out; have := s11.out; have := s12.out; have := s13.out; have := s14.out; have := s15.out; have := s16.out; omega))
  replace o_r := Lib.hid (o_r.out.out hO17 (by have := s1.out; have := t1.out; have := s2.out; have := t2.out; have := s3.out; have := s4.out; have := s5.out; have := s6.out; have := s7.out; have := t7.out; have := s8.out; have := s9.out; have := t9.out; have := s10.out; have := s11.out; have := s12.out; have := s13.out; have := s14.out; have := s15.out; have := s16.out; omega))
  replace HB := Lib.hid (hO17.below HB.out HB.out.size (by have := s1.out; have := t1.out; have := s2.out; have := t2.out; have := s3.out; have := s4.out; have := s5.out; have := s6.out; have := s7.out; have := t7.out; have := s8.out; have := s9.out; have := t9.out; have := s10.out; have := s11.out; have := s12.out; have := s13.out; have := s14.out; have := s15.out; have := s16.out; omega))
  clear o_g
  have o_g := Lib.hid m_g
  clear m_g
  clear hO17
  obtain ⟨c_a0_0, c_a0_1⟩ := cells2 B_a0.out
  have l_a0 := lt_of B_a0.out
  obtain ⟨c_a1_0, c_a1_1, c_a1_2, c_a1_3⟩ := cells4s B_a1.out
  have l_a1 := lt_of B_a1.out
  obtain ⟨c_y0_0, c_y0_1⟩ := cells2 B_y0.out
  have l_y0 := lt_of B_y0.out
  obtain ⟨c_y1_0, c_y1_1, c_y1_2, c_y1_3⟩ := cells4s B_y1.out
  have l_y1 := lt_of B_y1.out
  have dm0 : decide (1 + ((((blockedOnR0 x0 x1)).length : Nat) : Int) < 0) = false := decide_eq_false (by omega)
  go_wp2_with fail
  go_at_call 36
  refine (held_any _ (1) ((blockedOnR0 x0 x1)).length _ o_g.out.v (by omega) (by have := BD.out; omega) (by have := BD.out; omega)).mono ?_
  rintro e wq ⟨rfl, rfl⟩
  go_upto_region 31 with fail
  go_cut [13] from 92 (fun s13 wr => ∃ (a_u0 : Option Addr) (k_u0 : Nat), s13 = .slice a_u0 ((blockedOnR0 x0 x1)).length k_u0 ∧ Hid (OwnH w17.heap.size wr.heap.size wr (.slice a_u0 ((blockedOnR0 x0 x1)).length k_u0) (blockedOnR0 x0 x1)) ∧ Hid (Below w17.heap.size w17 wr))
  case first =>
    go_region_held3 (fun w' => w'.cell? ⟨w.heap.size, 0, none⟩ = some (.slice pa (x0).progs.length pcap) ∧ w'.cell? ⟨w.heap.size, 1, none⟩ = some (.slice la (x0).links.length lcap) ∧ w'.cell? ⟨w1.heap.size, 0, none⟩ = some (.slice sa (x1).acts.length sb) ∧ w'.cell? ⟨w1.heap.size, 1, none⟩ = some (.slice sc (x1).queues.length sd) ∧ w'.cell? ⟨w1.heap.size, 2, none⟩ = some (.slice se (x1).sent.length sf) ∧ w'.cell? ⟨w1.heap.size, 3, none⟩ = some (.int .i64 (x1).steps)) (go_keep) (first | (go_at_call 18; refine (toNet_h _ x0 _ (HA0.out.below (HB.out.trans ((by first | with_reducible exact Below.refl _ _ | with_reducible exact (Below.refl _ _).drew : Below w17.heap.size w17 _).mono HB.out.size))) HS0.out).mono ?_; rintro e X70 ⟨v70, rfl, ot70, hx70⟩; have hs70 := (show Below w17.heap.size w17 X70 by first | with_reducible exact hx70 | with_reducible exact cr_d hx70); have HC70 := Lib.hid hs70; have Q70_a0 := Lib.hid (blk_in B_a0.out hs70); obtain ⟨e70_a0_0, e70_a0_1⟩ := cells2 Q70_a0.out; have l70_a0 := lt_of Q70_a0.out; have Q70_a1 := Lib.hid (blk_in B_a1.out hs70); obtain ⟨e70_a1_0, e70_a1_1, e70_a1_2, e70_a1_3⟩ := cells4s Q70_a1.out; have l70_a1 := lt_of Q70_a1.out; obtain ⟨ra70, rb70, rfl⟩ := ot70.shape; have T0_70 := Lib.hid ot70; clear ot70 hx70 hs70) | (go_at_call 44; refine (toSt_h _ x1 _ (HA1.out.below (HB.out.trans ((by first | with_reducible exact HC70.out | with_reducible exact HC70.out.drew : Below w17.heap.size w17 _).mono HB.out.size))) HS1.out).mono ?_; rintro e X71 ⟨v71, rfl, ot71, hx71⟩; have hs71 := (show Below X70.heap.size X70 X71 by first | with_reducible exact hx71 | with_reducible exact cr_d hx71); have HC71 := Lib.hid (HC70.out.trans (hs71.mono HC70.out.size)); have Q71_a0 := Lib.hid (blk_in Q70_a0.out hs71); obtain ⟨e71_a0_0, e71_a0_1⟩ := cells2 Q71_a0.out; have l71_a0 := lt_of Q71_a0.out; have Q71_a1 := Lib.hid (blk_in Q70_a1.out hs71); obtain ⟨e71_a1_0, e71_a1_1, e71_a1_2, e71_a1_3⟩ := cells4s Q71_a1.out; have l71_a1 := lt_of Q71_a1.out; have T0_71 := Lib.hid (T0_70.out.below hs71); obtain ⟨ra71, rb71, rc71, rd71, re71, rf71, rfl⟩ := ot71.shape; have T1_71 := Lib.hid ot71; clear ot71 hx71 hs71) | (go_at_call 51; refine (iblocked_w _ x0 _ x1 _ (by first | with_reducible exact T0_71.out.v | with_reducible exact (T0_71.out.below (Below.refl _ _).drew).v) (by first | with_reducible exact T1_71.out.v | with_reducible exact (T1_71.out.below (Below.refl _ _).drew).v)).mono ?_; rintro e X79 ⟨v_u0, rfl, og, hx79⟩; have hs79 := (show Below X71.heap.size X71 X79 by first | with_reducible exact hx79 | with_reducible exact cr_d hx79); have HC79 := Lib.hid (HC71.out.trans (hs79.mono HC71.out.size)); have Q79_a0 := Lib.hid (blk_in Q71_a0.out hs79); obtain ⟨e79_a0_0, e79_a0_1⟩ := cells2 Q79_a0.out; have l79_a0 := lt_of Q79_a0.out; have Q79_a1 := Lib.hid (blk_in Q71_a1.out hs79); obtain ⟨e79_a1_0, e79_a1_1, e79_a1_2, e79_a1_3⟩ := cells4s Q79_a1.out; have l79_a1 := lt_of Q79_a1.out; have T0_79 := Lib.hid (T0_71.out.below hs79); have T1_79 := Lib.hid (T1_71.out.below hs79); obtain ⟨a_u0, k_u0, rfl⟩ := og.shape; have OG := Lib.hid (ownH_lo (lo' := w17.heap.size) (by first | exact HC71.out.size | exact HC71.out.drew.size) og); clear og; clear hx79 hs79))
    all_goals
      go_wp2_with fail
      go_meet
      case rel => exact ⟨_, _, rfl, (by first | with_reducible exact OG | with_reducible exact Lib.hid (OG.out.below (Below.refl _ _).drew)), (by first | with_reducible exact HC79 | with_reducible exact Lib.hid HC79.out.drew)⟩
  rename World => w18
  obtain ⟨a_u0, k_u0, rfl, o_u, hb18⟩ := hcut
  replace hb18 := hb18.out
  have s18 := Lib.hid (show w17.heap.size ≤ w18.heap.size from hb18.size)
  clear c_a0_0 c_a0_1 l_a0
  clear c_a1_0 c_a1_1 c_a1_2 c_a1_3 l_a1
  clear c_y0_0 c_y0_1 l_y0
  clear c_y1_0 c_y1_1 c_y1_2 c_y1_3 l_y1
  replace B_a0 := Lib.hid (blk_in B_a0.out hb18)
  replace B_a1 := Lib.hid (blk_in B_a1.out hb18)
  replace B_y0 := Lib.hid (blk_in B_y0.out hb18)
  replace B_y1 := Lib.hid (blk_in B_y1.out hb18)
  replace o_r := Lib.hid (o_r.out.below hb18)
  replace o_g := Lib.hid (o_g.out.below hb18)
  replace HB := Lib.hid (HB.out.trans (hb18.mono HB.out.size))
  clear hb18
  obtain ⟨c_a0_0, c_a0_1⟩ := cells2 B_a0.out
  have l_a0 := lt_of B_a0.out
  obtain ⟨c_a1_0, c_a1_1, c_a1_2, c_a1_3⟩ := cells4s B_a1.out
  have l_a1 := lt_of B_a1.out
  obtain ⟨c_y0_0, c_y0_1⟩ := cells2 B_y0.out
  have l_y0 := lt_of B_y0.out
  obtain ⟨c_y1_0, c_y1_1, c_y1_2, c_y1_3⟩ := cells4s B_y1.out
  have l_y1 := lt_of B_y1.out
  go_wp2_with fail
  go_at_call 34
  refine (eqS_ok _ _ (blockedOnR0 x0 x1) _ o_u.out.v o_r.out.v).mono ?_
  rintro e w19 ⟨rfl, hb19⟩
  have s19 := Lib.hid (show w18.heap.size ≤ w19.heap.size from hb19.size)
  clear c_a0_0 c_a0_1 l_a0
  clear c_a1_0 c_a1_1 c_a1_2 c_a1_3 l_a1
  clear c_y0_0 c_y0_1 l_y0
  clear c_y1_0 c_y1_1 c_y1_2 c_y1_3 l_y1
  replace B_a0 := Lib.hid (blk_in B_a0.out hb19)
  replace B_a1 := Lib.hid (blk_in B_a1.out hb19)
  replace B_y0 := Lib.hid (blk_in B_y0.out hb19)
  replace B_y1 := Lib.hid (blk_in B_y1.out hb19)
  replace o_r := Lib.hid (o_r.out.below hb19)
  replace o_g := Lib.hid (o_g.out.below hb19)
  replace o_u := Lib.hid (o_u.out.below hb19)
  replace HB := Lib.hid (HB.out.trans (hb19.mono HB.out.size))
  clear hb19
  obtain ⟨c_a0_0, c_a0_1⟩ := cells2 B_a0.out
  have l_a0 := lt_of B_a0.out
  obtain ⟨c_a1_0, c_a1_1, c_a1_2, c_a1_3⟩ := cells4s B_a1.out
  have l_a1 := lt_of B_a1.out
  obtain ⟨c_y0_0, c_y0_1⟩ := cells2 B_y0.out
  have l_y0 := lt_of B_y0.out
  obtain ⟨c_y1_0, c_y1_1, c_y1_2, c_y1_3⟩ := cells4s B_y1.out
  have l_y1 := lt_of B_y1.out
  go_wp2_with fail
  go_at_call 36
  refine (held_any _ (1) ((blockedOnR0 x0 x1)).length _ o_g.out.v (by omega) (by have := BD.out; omega) (by have := BD.out; omega)).mono ?_
  rintro e wq ⟨rfl, rfl⟩
  go_wp2_with fail
  go_ret
  exact ⟨rfl, HB.out⟩

end Go.Proofs.Ytjphamgkigekkaa
