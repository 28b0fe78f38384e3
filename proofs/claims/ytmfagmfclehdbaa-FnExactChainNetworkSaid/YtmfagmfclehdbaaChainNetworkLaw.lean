/-
  The walk of the law FnExactChainNetwork: it answers true and changes nothing that was there.
-/
import Derived.Test.YtmfagmfclehdbaaNetK
import Derived.Test.YtmfagmfclehdbaaLawKit
import Derived.Deep.Cut
import Derived.Deep.RegionHeld3
namespace Go.Proofs.Ytmfagmfclehdbaa
open Go.RowKit

set_option maxRecDepth 100000 in
set_option maxHeartbeats 40000000 in
theorem fnExactChainNetwork_walk (v0 : Value) (x0 : List Prg) (v1 : Value) (x1 : List Int) (w : World) (h0 : SlP w v0 x0) (h1 : Sl w v1 x1) :
    Calls Try.prog 7 #[v0, v1] w fun e w' => e = .returned (.bool true) ∧ Below w.heap.size w w' := by
  have HA0 := Lib.hid h0
  clear h0
  have HA1 := Lib.hid h1
  obtain ⟨a1, k1, rfl⟩ := h1.shape
  clear h1
  have BD := Lib.hid (chain_bd x0 x1)
  have HB := Lib.hid (Below.refl w.heap.size w)
  go_enter Try.func7, Try.ntmps7
  by_cases z1 : (x1).length ≤ 1048576
  case neg =>
    have d : decide ((((x1).length : Nat) : Int) > 1048576) = true := decide_eq_true (by omega)
    have d' : decide (1048576 < (((x1).length : Nat) : Int)) = true := decide_eq_true (by omega)
    go_wp2_with fail
    go_ret
    exact ⟨rfl, HB.out⟩
  have d1s : decide ((((x1).length : Nat) : Int) > 1048576) = false := decide_eq_false (by omega)
  have d1t : decide (1048576 < (((x1).length : Nat) : Int)) = false := decide_eq_false (by omega)
  have HS1 := Lib.hid z1
  clear z1
  have HL0 := Lib.hid (show (0 : Int) ≤ 1048576 ∧ (1048576 : Int) ≤ 1048576 by omega)
  go_wp2_with fail
  go_at_call 31
  by_cases z0 : ((sumP x0 : Nat) : Int) ≤ 1048576
  case neg =>
    refine (szProgramS_any _ x0 (1048576) _ (HA0.out.below HB.out) HL0.out).mono ?_
    rintro e wz ⟨rfl, hb⟩
    rw [if_neg z0]
    go_wp2_with fail
    go_ret
    exact ⟨rfl, HB.out.trans (hb.mono HB.out.size)⟩
  refine (szProgramS_any _ x0 (1048576) _ (HA0.out.below HB.out) HL0.out).mono ?_
  rintro e w1 ⟨rfl, hb1⟩
  rw [if_pos z0]
  obtain ⟨l1, hl⟩ : ∃ l : Int, l = 1048576 - ((sumP x0 : Nat) : Int) := ⟨_, rfl⟩
  rw [← hl]
  have HL1 := Lib.hid (show 0 ≤ l1 ∧ l1 ≤ 1048576 by have := HL0.out; omega)
  have HS0 := Lib.hid (show sumP x0 ≤ 1048576 by have := HL0.out; omega)
  have d1 : decide (l1 < 0) = false := decide_eq_false (by have := HL1.out; omega)
  clear hl z0
  have s1 := Lib.hid (show w.heap.size ≤ w1.heap.size from hb1.size)
  replace HB := Lib.hid (HB.out.trans (hb1.mono HB.out.size))
  clear hb1
  go_wp2_with fail
  go_at_call 33
  refine (toPgs_h _ x0 _ (HA0.out.below HB.out) HS0.out).mono ?_
  rintro e w2 ⟨v_t0, rfl, o_t0, hb2⟩
  have s2 := Lib.hid (show w1.heap.size ≤ w2.heap.size from hb2.size)
  replace HB := Lib.hid (HB.out.trans (hb2.mono HB.out.size))
  obtain ⟨a_t0, k_t0, rfl⟩ := o_t0.shape
  replace o_t0 := Lib.hid o_t0
  clear hb2
  go_wp2_with fail
  go_at_call 21
  refine (toInt_h _ x1 _ (HA1.out.below HB.out) HS1.out).mono ?_
  rintro e w3 ⟨v_t1, rfl, o_t1, hb3⟩
  have s3 := Lib.hid (show w2.heap.size ≤ w3.heap.size from hb3.size)
  replace o_t0 := Lib.hid (o_t0.out.below hb3)
  replace HB := Lib.hid (HB.out.trans (hb3.mono HB.out.size))
  obtain ⟨a_t1, k_t1, rfl⟩ := o_t1.shape
  replace o_t1 := Lib.hid o_t1
  clear hb3
  go_wp2_with fail
  go_at_call 32
  refine (schain_w _ x0 _ x1 _ o_t0.out.v o_t1.out.v HS0.out HS1.out).mono ?_
  rintro e w4 ⟨v_r0, rfl, o_r, hb4⟩
  have s4 := Lib.hid (show w3.heap.size ≤ w4.heap.size from hb4.size)
  replace o_t0 := Lib.hid (o_t0.out.below hb4)
  replace o_t1 := Lib.hid (o_t1.out.below hb4)
  replace HB := Lib.hid (HB.out.trans (hb4.mono HB.out.size))
  obtain ⟨a_r, b_r, c_r, d_r, rfl⟩ := o_r.shape
  replace o_r := Lib.hid o_r
  clear hb4
  clear o_t0
  clear o_t1
  go_wp2_with fail
  generalize hw5 : w4.alloc (.cells #[.slice a_r (chainNetworkR0 x0 x1).progs.length b_r, .slice c_r (chainNetworkR0 x0 x1).links.length d_r] 35) = w5
  have hb5 : Below w4.heap.size w4 w5 := by rw [← hw5]; exact (Below.refl _ _).al _
  have hn5 : w5.heap[w4.heap.size]? = some (.cells #[.slice a_r (chainNetworkR0 x0 x1).progs.length b_r, .slice c_r (chainNetworkR0 x0 x1).links.length d_r] 35) := by rw [← hw5]; exact hp1 _ _
  clear hw5
  have s5 := Lib.hid (show w4.heap.size ≤ w5.heap.size from hb5.size)
  replace o_r := Lib.hid (o_r.out.below hb5)
  replace HB := Lib.hid (HB.out.trans (hb5.mono HB.out.size))
  have B_r := Lib.hid hn5
  have t5 := Lib.hid (lt_of hn5)
  clear hn5 hb5
  obtain ⟨c_r_0, c_r_1⟩ := cells2 B_r.out
  have l_r := lt_of B_r.out
  go_wp2_with fail
  go_at_call 33
  refine (toPgs_h _ x0 _ (HA0.out.below HB.out) HS0.out).mono ?_
  rintro e w6 ⟨v_y0, rfl, o_y0, hb6⟩
  have s6 := Lib.hid (show w5.heap.size ≤ w6.heap.size from hb6.size)
  clear c_r_0 c_r_1 l_r
  replace B_r := Lib.hid (blk_in B_r.out hb6)
  replace o_r := Lib.hid (o_r.out.below hb6)
  replace HB := Lib.hid (HB.out.trans (hb6.mono HB.out.size))
  obtain ⟨a_y0, k_y0, rfl⟩ := o_y0.shape
  replace o_y0 := Lib.hid o_y0
  clear hb6
  obtain ⟨c_r_0, c_r_1⟩ := cells2 B_r.out
  have l_r := lt_of B_r.out
  go_wp2_with fail
  go_at_call 21
  refine (toInt_h _ x1 _ (HA1.out.below HB.out) HS1.out).mono ?_
  rintro e w7 ⟨v_y1, rfl, o_y1, hb7⟩
  have s7 := Lib.hid (show w6.heap.size ≤ w7.heap.size from hb7.size)
  clear c_r_0 c_r_1 l_r
  replace B_r := Lib.hid (blk_in B_r.out hb7)
  replace o_r := Lib.hid (o_r.out.below hb7)
  replace o_y0 := Lib.hid (o_y0.out.below hb7)
  replace HB := Lib.hid (HB.out.trans (hb7.mono HB.out.size))
  obtain ⟨a_y1, k_y1, rfl⟩ := o_y1.shape
  replace o_y1 := Lib.hid o_y1
  clear hb7
  obtain ⟨c_r_0, c_r_1⟩ := cells2 B_r.out
  have l_r := lt_of B_r.out
  go_wp2_with fail
  go_at_call 34
  refine (ichain_w _ x0 _ x1 _ o_y0.out.v o_y1.out.v HS0.out).mono ?_
  rintro e w8 ⟨v_g0, rfl, o_g, hb8⟩
  have s8 := Lib.hid (show w7.heap.size ≤ w8.heap.size from hb8.size)
  clear c_r_0 c_r_1 l_r
  replace B_r := Lib.hid (blk_in B_r.out hb8)
  replace o_r := Lib.hid (o_r.out.below hb8)
  replace o_y0 := Lib.hid (o_y0.out.below hb8)
  replace o_y1 := Lib.hid (o_y1.out.below hb8)
  replace HB := Lib.hid (HB.out.trans (hb8.mono HB.out.size))
  obtain ⟨a_g, b_g, c_g, d_g, rfl⟩ := o_g.shape
  replace o_g := Lib.hid o_g
  clear hb8
  obtain ⟨c_r_0, c_r_1⟩ := cells2 B_r.out
  have l_r := lt_of B_r.out
  go_wp2_with fail
  generalize hw9 : w8.alloc (.cells #[.slice a_g (chainNetworkR0 x0 x1).progs.length b_g, .slice c_g (chainNetworkR0 x0 x1).links.length d_g] 35) = w9
  have hb9 : Below w8.heap.size w8 w9 := by rw [← hw9]; exact (Below.refl _ _).al _
  have hn9 : w9.heap[w8.heap.size]? = some (.cells #[.slice a_g (chainNetworkR0 x0 x1).progs.length b_g, .slice c_g (chainNetworkR0 x0 x1).links.length d_g] 35) := by rw [← hw9]; exact hp1 _ _
  clear hw9
  have s9 := Lib.hid (show w8.heap.size ≤ w9.heap.size from hb9.size)
  clear c_r_0 c_r_1 l_r
  replace B_r := Lib.hid (blk_in B_r.out hb9)
  replace o_r := Lib.hid (o_r.out.below hb9)
  replace o_y0 := Lib.hid (o_y0.out.below hb9)
  replace o_y1 := Lib.hid (o_y1.out.below hb9)
  replace o_g := Lib.hid (o_g.out.below hb9)
  replace HB := Lib.hid (HB.out.trans (hb9.mono HB.out.size))
  have B_g := Lib.hid hn9
  have t9 := Lib.hid (lt_of hn9)
  clear hn9 hb9
  obtain ⟨c_r_0, c_r_1⟩ := cells2 B_r.out
  have l_r := lt_of B_r.out
  obtain ⟨c_g_0, c_g_1⟩ := cells2 B_g.out
  have l_g := lt_of B_g.out
  go_at_call 16
  refine (eqNet_ok _ _ (chainNetworkR0 x0 x1) _ o_g.out.v o_r.out.v).mono ?_
  rintro e w10 ⟨rfl, hb10⟩
  have s10 := Lib.hid (show w9.heap.size ≤ w10.heap.size from hb10.size)
  clear c_r_0 c_r_1 l_r
  clear c_g_0 c_g_1 l_g
  replace B_r := Lib.hid (blk_in B_r.out hb10)
  replace B_g := Lib.hid (blk_in B_g.out hb10)
  replace o_r := Lib.hid (o_r.out.below hb10)
  replace o_y0 := Lib.hid (o_y0.out.below hb10)
  replace o_y1 := Lib.hid (o_y1.out.below hb10)
  replace o_g := Lib.hid (o_g.out.below hb10)
  replace HB := Lib.hid (HB.out.trans (hb10.mono HB.out.size))
  clear hb10
  obtain ⟨c_r_0, c_r_1⟩ := cells2 B_r.out
  have l_r := lt_of B_r.out
  obtain ⟨c_g_0, c_g_1⟩ := cells2 B_g.out
  have l_g := lt_of B_g.out
  go_wp2_with fail
  go_at_call 33
  refine (toPgs_h _ x0 _ (HA0.out.below HB.out) HS0.out).mono ?_
  rintro e w11 ⟨v_z0, rfl, o_z0, hb11⟩
  have s11 := Lib.hid (show w10.heap.size ≤ w11.heap.size from hb11.size)
  clear c_r_0 c_r_1 l_r
  clear c_g_0 c_g_1 l_g
  replace B_r := Lib.hid (blk_in B_r.out hb11)
  replace B_g := Lib.hid (blk_in B_g.out hb11)
  replace o_r := Lib.hid (o_r.out.below hb11)
  replace o_y0 := Lib.hid (o_y0.out.below hb11)
  replace o_y1 := Lib.hid (o_y1.out.below hb11)
  replace o_g := Lib.hid (o_g.out.below hb11)
  replace HB := Lib.hid (HB.out.trans (hb11.mono HB.out.size))
  obtain ⟨a_z0, k_z0, rfl⟩ := o_z0.shape
  replace o_z0 := Lib.hid o_z0
  clear hb11
  obtain ⟨c_r_0, c_r_1⟩ := cells2 B_r.out
  have l_r := lt_of B_r.out
  obtain ⟨c_g_0, c_g_1⟩ := cells2 B_g.out
  have l_g := lt_of B_g.out
  go_wp2_with fail
  go_at_call 35
  refine (eqProgramS_ok _ _ x0 _ o_y0.out.v o_z0.out.v).mono ?_
  rintro e w12 ⟨rfl, hb12⟩
  have s12 := Lib.hid (show w11.heap.size ≤ w12.heap.size from hb12.size)
  clear c_r_0 c_r_1 l_r
  clear c_g_0 c_g_1 l_g
  replace B_r := Lib.hid (blk_in B_r.out hb12)
  replace B_g := Lib.hid (blk_in B_g.out hb12)
  replace o_r := Lib.hid (o_r.out.below hb12)
  replace o_y0 := Lib.hid (o_y0.out.below hb12)
  replace o_y1 := Lib.hid (o_y1.out.below hb12)
  replace o_g := Lib.hid (o_g.out.below hb12)
  replace o_z0 := Lib.hid (o_z0.out.below hb12)
  replace HB := Lib.hid (HB.out.trans (hb12.mono HB.out.size))
  clear hb12
  obtain ⟨c_r_0, c_r_1⟩ := cells2 B_r.out
  have l_r := lt_of B_r.out
  obtain ⟨c_g_0, c_g_1⟩ := cells2 B_g.out
  have l_g := lt_of B_g.out
  clear o_z0
  go_wp2_with fail
  go_at_call 21
  refine (toInt_h _ x1 _ (HA1.out.below HB.out) HS1.out).mono ?_
  rintro e w13 ⟨v_z1, rfl, o_z1, hb13⟩
  have s13 := Lib.hid (show w12.heap.size ≤ w13.heap.size from hb13.size)
  clear c_r_0 c_r_1 l_r
  clear c_g_0 c_g_1 l_g
  replace B_r := Lib.hid (blk_in B_r.out hb13)
  replace B_g := Lib.hid (blk_in B_g.out hb13)
  replace o_r := Lib.hid (o_r.out.below hb13)
  replace o_y0 := Lib.hid (o_y0.out.below hb13)
  replace o_y1 := Lib.hid (o_y1.out.below hb13)
  replace o_g := Lib.hid (o_g.out.below hb13)
  replace HB := Lib.hid (HB.out.trans (hb13.mono HB.out.size))
  obtain ⟨a_z1, k_z1, rfl⟩ := o_z1.shape
  replace o_z1 := Lib.hid o_z1
  clear hb13
  obtain ⟨c_r_0, c_r_1⟩ := cells2 B_r.out
  have l_r := lt_of B_r.out
  obtain ⟨c_g_0, c_g_1⟩ := cells2 B_g.out
  have l_g := lt_of B_g.out
  go_wp2_with fail
  go_at_call 23
  refine (eqS_ok _ _ x1 _ o_y1.out.v o_z1.out.v).mono ?_
  rintro e w14 ⟨rfl, hb14⟩
  have s14 := Lib.hid (show w13.heap.size ≤ w14.heap.size from hb14.size)
  clear c_r_0 c_r_1 l_r
  clear c_g_0 c_g_1 l_g
  replace B_r := Lib.hid (blk_in B_r.out hb14)
  replace B_g := Lib.hid (blk_in B_g.out hb14)
  replace o_r := Lib.hid (o_r.out.below hb14)
  replace o_y0 := Lib.hid (o_y0.out.below hb14)
  replace o_y1 := Lib.hid (o_y1.out.below hb14)
  replace o_g := Lib.hid (o_g.out.below hb14)
  replace o_z1 := Lib.hid (o_z1.out.below hb14)
  replace HB := Lib.hid (HB.out.trans (hb14.mono HB.out.size))
  clear hb14
  obtain ⟨c_r_0, c_r_1⟩ := cells2 B_r.out
  have l_r := lt_of B_r.out
  obtain ⟨c_g_0, c_g_1⟩ := cells2 B_g.out
  have l_g := lt_of B_g.out
  clear o_z1
  go_wp2_with fail
  go_at_call 36
  refine (markPgs_h (w5.heap.size) (w6.heap.size) _ x0 (1) _ o_y0.out (by omega) (by have := HS0.out; have := HS1.out; have := stP_le x0; omega)).mono ?_
  rintro e w15 ⟨rfl, hO15⟩
  have s15 := Lib.hid (show w14.heap.size ≤ w15.heap.size from hO15.size)
  clear c_r_0 c_r_1 l_r
  clear c_g_0 c_g_1 l_g
  replace B_r := Lib.hid (hO15.blk B_r.out (by have := s1.out; have := s2.out; have := s3.out; have := s4.out; have := s5.out; have := t5.out; have := s6.out; have := s7.out; have := s8.out; have := s9.out; have := t9.out; have := s10.out; have := s11.out; have := s12.out; have := s13.out; have := s14.out; omega))
  replace B_g := Lib.hid (hO15.blk B_g.out (by have := s1.out; have := s2.out; have := s3.out; have := s4.out; have := s5.out; have := t5.out; have := s6.out; have := s7.out; have := s8.out; have := s9.out; have := t9.out; have := s10.out; have := s11.out; have := s12.out; have := s13.out; have := s14.out; omega))
  replace o_r := Lib.hid (o_r.out.out hO15 (by have := s1.out; have := s2.out; have := s3.out; have := s4.out; have := s5.out; have := t5.out; have := s6.out; have := s7.out; have := s8.out; have := s9.out; have := t9.out; have := s10.out; have := s11.out; have := s12.out; have := s13.out; have := s14.out; omega))
  replace o_y1 := Lib.hid (o_y1.out.out hO15 (by have := s1.out; have := s2.out; have := s3.out; have := s4.out; have := s5.out; have := t5.out; have := s6.out; have := s7.out; have := s8.out; have := s9.out; have := t9.out; have := s10.out; have := s11.out; have := s12.out; have := s13.out; have := s14.out; omega))
  replace o_g := Lib.hid (o_g.out.out hO15 (by have := s1.out; have := s2.out; have := s3.out; have := s4.out; have := s5.out; have := t5.out; have := s6.out; have := s7.out; have := s8.out; have := s9.out; have := t9.out; have := s10.out; have := s11.out; have := s12.out; have := s13.out; have := s14.out; omega))
  replace HB := Lib.hid (hO15.below HB.out HB.out.size (by have := s1.out; have := s2.out; have := s3.out; have := s4.out; have := s5.out; have := t5.out; have := s6.out; have := s7.out; have := s8.out; have := s9.out; have := t9.out; have := s10.out; have := s11.out; have := s12.out; have := s13.out; have := s14.out; omega))
  clear hO15
  obtain ⟨c_r_0, c_r_1⟩ := cells2 B_r.out
  have l_r := lt_of B_r.out
  obtain ⟨c_g_0, c_g_1⟩ := cells2 B_g.out
  have l_g := lt_of B_g.out
  clear o_y0
  go_wp2_with fail
  go_at_call 26
  refine (mark_h (w6.heap.size) (w7.heap.size) _ x1 (1 + ((((x0).map stP).sum : Nat) : Int)) _ o_y1.out (by omega) (by have := HS0.out; have := HS1.out; have := stP_le x0; omega)).mono ?_
  rintro e w16 ⟨rfl, _, hO16⟩
  have s16 := Lib.hid (show w15.heap.size ≤ w16.heap.size from hO16.size)
  clear c_r_0 c_r_1 l_r
  clear c_g_0 c_g_1 l_g
  replace B_r := Lib.hid (hO16.blk B_r.out (by have := s1.out; have := s2.out; have := s3.out; have := s4.out; have := s5.out; have := t5.out; have := s6.out; have := s7.out; have := s8.out; have := s9.out; have := t9.out; have := s10.out; have := s11.out; have := s12.out; have := s13.out; have := s14.out; have := s15.out; omega))
  replace B_g := Lib.hid (hO16.blk B_g.out (by have := s1.out; have := s2.out; have := s3.out; have := s4.out; have := s5.out; have := t5.out; have := s6.out; have := s7.out; have := s8.out; have := s9.out; have := t9.out; have := s10.out; have := s11.out; have := s12.out; have := s13.out; have := s14.out; have := s15.out; omega))
  replace o_r := Lib.hid (o_r.out.out hO16 (by have := s1.out; have := s2.out; have := s3.out; have := s4.out; have := s5.out; have := t5.out; have := s6.out; have := s7.out; have := s8.out; have := s9.out; have := t9.out; have := s10.out; have := s11.out; have := s12.out; have := s13.out; have := s14.out; have := s15.out; omega))
  replace o_g := Lib.hid (o_g.out.out hO16 (by have := s1.out; have := s2.out; have := s3.out; have := s4.out; have := s5.out; have := t5.out; have := s6.out; have := s7.out; have := s8.out; have := s9.out; have := t9.out; have := s10.out; have := s11.out; have := s12.out; have := s13.out; have := s14.out; have := s15.out; omega))
  replace HB := Lib.hid (hO16.below HB.out HB.out.size (by have := s1.out; have := s2.out; have := s3.out; have := s4.out; have := s5.out; have := t5.out; have := s6.out; have := s7.out; have := s8.out; have := s9.out; have := t9.out; have := s10.out; have := s11.out; have := s12.out; have := s13.out; have := s14.out; have := s15.out; omega))
  clear hO16
  obtain ⟨c_r_0, c_r_1⟩ := cells2 B_r.out
  have l_r := lt_of B_r.out
  obtain ⟨c_g_0, c_g_1⟩ := cells2 B_g.out
  have l_g := lt_of B_g.out
  clear o_y1
  have dk : decide (1 + ((((x0).map stP).sum : Nat) : Int) + (((x1).length : Nat) : Int) < 0) = false := decide_eq_false (by omega)
  go_wp2_with fail
  go_at_call 16
  refine (eqNet_ok _ _ (chainNetworkR0 x0 x1) _ o_g.out.v o_r.out.v).mono ?_
  rintro e w17 ⟨rfl, hb17⟩
  have s17 := Lib.hid (show w16.heap.size ≤ w17.heap.size from hb17.size)
  clear c_r_0 c_r_1 l_r
  clear c_g_0 c_g_1 l_g
  replace B_r := Lib.hid (blk_in B_r.out hb17)
  replace B_g := Lib.hid (blk_in B_g.out hb17)
  replace o_r := Lib.hid (o_r.out.below hb17)
  replace o_g := Lib.hid (o_g.out.below hb17)
  replace HB := Lib.hid (HB.out.trans (hb17.mono HB.out.size))
  clear hb17
  obtain ⟨c_r_0, c_r_1⟩ := cells2 B_r.out
  have l_r := lt_of B_r.out
  obtain ⟨c_g_0, c_g_1⟩ := cells2 B_g.out
  have l_g := lt_of B_g.out
  go_wp2_with fail
  go_at_call 17
  refine (markNet_r (w7.heap.size) (w8.heap.size) _ (chainNetworkR0 x0 x1) (1) _ o_g.out (by have := s1.out; have := s2.out; have := s3.out; have := s4.out; have := s5.out; have := t5.out; have := s6.out; have := s7.out; have := s8.out; have := s9.out; have := t9.out; have := s10.out; have := s11.out; have := s12.out; have := s13.out; have := s14.out; have := s15.out; have := s16.out; have := s17.out; omega) (by omega) (by have := BD.out; omega)).mono ?_
  rintro e w18 ⟨rfl, m_g, hO18⟩
  have s18 := Lib.hid (show w17.heap.size ≤ w18.heap.size from hO18.size)
  clear c_r_0 c_r_1 l_r
  clear c_g_0 c_g_1 l_g
  replace B_r := Lib.hid (hO18.blk B_r.out (by have := s1.out; have := s2.out; have := s3.out; have := s4.out; have := s5.out; have := t5.out; have := s6.out; have := s7.out; have := s8.out; have := s9.out; have := t9.out; have := s10.out; have := s11.out; have := s12.out; have := s13.out; have := s14.out; have := s15.out; have := s16.out; have := s17.out; omega))
  replace B_g := Lib.hid (hO18.blk B_g.out (by have := s1.out; have := s2.out; have := s3.out; have := s4.out; have := s5.out; have := t5.out; have := s6.out; have := s7.out; have := s8.out; have := s9.out; have := t9.out; have := s10.out; have := s11.out; have := s12.out; have := s13.out; have := s14.out; have := s15.out; have := s16.out; have := s17.out; omega))
  replace o_r := Lib.hid (o_r.out.out hO18 (by have := s1.out; have := s2.out; have := s3.out; have := s4.out; have := s5.out; have := t5.out; have := s6.out; have := s7.out; have := s8.out; have := s9.out; have := t9.out; have := s10.out; have := s11.out; have := s12.out; have := s13.out; have := s14.out; have := s15.out; have := s16.out; have := s17.out; omega))
  replace HB := Lib.hid (hO18.below HB.out HB.out.size (by have := s1.out; have := s2.out; have := s3.out; have := s4.out; have := s5.out; have := t5.out; have := s6.out; have := s7.out; have := s8.out; have := s9.out; have := t9.out; have := s10.out; have := s11.out; have := s12.out; have := s13.out; have := s14.out; have := s15.out; have := s16.out; have := s17.out; omega))
  clear o_g
  have o_g := Lib.hid m_g
  clear m_g
  clear hO18
  obtain ⟨c_r_0, c_r_1⟩ := cells2 B_r.out
  have l_r := lt_of B_r.out
  obtain ⟨c_g_0, c_g_1⟩ := cells2 B_g.out
  have l_g := lt_of B_g.out
  have dm0 : decide (1 + (((stN (chainNetworkR0 x0 x1) : Nat) : Int)) < 0) = false := decide_eq_false (by omega)
  go_wp2_with fail
  go_at_call 30
  refine (heldNet_r _ (chainNetworkR0 x0 x1) (1) _ o_g.out.v (by omega) (by have := BD.out; omega)).mono ?_
  rintro e w19 ⟨rfl, hb19⟩
  have s19 := Lib.hid (show w18.heap.size ≤ w19.heap.size from hb19.size)
  clear c_r_0 c_r_1 l_r
  clear c_g_0 c_g_1 l_g
  replace B_r := Lib.hid (blk_in B_r.out hb19)
  replace B_g := Lib.hid (blk_in B_g.out hb19)
  replace o_r := Lib.hid (o_r.out.below hb19)
  replace o_g := Lib.hid (o_g.out.below hb19)
  replace HB := Lib.hid (HB.out.trans (hb19.mono HB.out.size))
  clear hb19
  obtain ⟨c_r_0, c_r_1⟩ := cells2 B_r.out
  have l_r := lt_of B_r.out
  obtain ⟨c_g_0, c_g_1⟩ := cells2 B_g.out
  have l_g := lt_of B_g.out
  go_wp2_with fail
  go_at_call 33
  refine (toPgs_h _ x0 _ (HA0.out.below HB.out) HS0.out).mono ?_
  rintro e w20 ⟨v_q0, rfl, o_q0, hb20⟩
  have s20 := Lib.hid (show w19.heap.size ≤ w20.heap.size from hb20.size)
  clear c_r_0 c_r_1 l_r
  clear c_g_0 c_g_1 l_g
  replace B_r := Lib.hid (blk_in B_r.out hb20)
  replace B_g := Lib.hid (blk_in B_g.out hb20)
  replace o_r := Lib.hid (o_r.out.below hb20)
  replace o_g := Lib.hid (o_g.out.below hb20)
  replace HB := Lib.hid (HB.out.trans (hb20.mono HB.out.size))
  obtain ⟨a_q0, k_q0, rfl⟩ := o_q0.shape
  replace o_q0 := Lib.hid o_q0
  clear hb20
  obtain ⟨c_r_0, c_r_1⟩ := cells2 B_r.out
  have l_r := lt_of B_r.out
  obtain ⟨c_g_0, c_g_1⟩ := cells2 B_g.out
  have l_g := lt_of B_g.out
  go_wp2_with fail
  go_at_call 21
  refine (toInt_h _ x1 _ (HA1.out.below HB.out) HS1.out).mono ?_
  rintro e w21 ⟨v_q1, rfl, o_q1, hb21⟩
  have s21 := Lib.hid (show w20.heap.size ≤ w21.heap.size from hb21.size)
  clear c_r_0 c_r_1 l_r
  clear c_g_0 c_g_1 l_g
  replace B_r := Lib.hid (blk_in B_r.out hb21)
  replace B_g := Lib.hid (blk_in B_g.out hb21)
  replace o_r := Lib.hid (o_r.out.below hb21)
  replace o_g := Lib.hid (o_g.out.below hb21)
  replace o_q0 := Lib.hid (o_q0.out.below hb21)
  replace HB := Lib.hid (HB.out.trans (hb21.mono HB.out.size))
  obtain ⟨a_q1, k_q1, rfl⟩ := o_q1.shape
  replace o_q1 := Lib.hid o_q1
  clear hb21
  obtain ⟨c_r_0, c_r_1⟩ := cells2 B_r.out
  have l_r := lt_of B_r.out
  obtain ⟨c_g_0, c_g_1⟩ := cells2 B_g.out
  have l_g := lt_of B_g.out
  go_wp2_with fail
  go_at_call 34
  refine (ichain_w _ x0 _ x1 _ o_q0.out.v o_q1.out.v HS0.out).mono ?_
  rintro e w22 ⟨v_u0, rfl, o_u, hb22⟩
  have s22 := Lib.hid (show w21.heap.size ≤ w22.heap.size from hb22.size)
  clear c_r_0 c_r_1 l_r
  clear c_g_0 c_g_1 l_g
  replace B_r := Lib.hid (blk_in B_r.out hb22)
  replace B_g := Lib.hid (blk_in B_g.out hb22)
  replace o_r := Lib.hid (o_r.out.below hb22)
  replace o_g := Lib.hid (o_g.out.below hb22)
  replace o_q0 := Lib.hid (o_q0.out.below hb22)
  replace o_q1 := Lib.hid (o_q1.out.below hb22)
  replace HB := Lib.hid (HB.out.trans (hb22.mono HB.out.size))
  obtain ⟨a_u, b_u, c_u, d_u, rfl⟩ := o_u.shape
  replace o_u := Lib.hid o_u
  clear hb22
  obtain ⟨c_r_0, c_r_1⟩ := cells2 B_r.out
  have l_r := lt_of B_r.out
  obtain ⟨c_g_0, c_g_1⟩ := cells2 B_g.out
  have l_g := lt_of B_g.out
  clear o_q0
  clear o_q1
  go_wp2_with fail
  generalize hw23 : w22.alloc (.cells #[.slice a_u (chainNetworkR0 x0 x1).progs.length b_u, .slice c_u (chainNetworkR0 x0 x1).links.length d_u] 35) = w23
  have hb23 : Below w22.heap.size w22 w23 := by rw [← hw23]; exact (Below.refl _ _).al _
  have hn23 : w23.heap[w22.heap.size]? = some (.cells #[.slice a_u (chainNetworkR0 x0 x1).progs.length b_u, .slice c_u (chainNetworkR0 x0 x1).links.length d_u] 35) := by rw [← hw23]; exact hp1 _ _
  clear hw23
  have s23 := Lib.hid (show w22.heap.size ≤ w23.heap.size from hb23.size)
  clear c_r_0 c_r_1 l_r
  clear c_g_0 c_g_1 l_g
  replace B_r := Lib.hid (blk_in B_r.out hb23)
  replace B_g := Lib.hid (blk_in B_g.out hb23)
  replace o_r := Lib.hid (o_r.out.below hb23)
  replace o_g := Lib.hid (o_g.out.below hb23)
  replace o_u := Lib.hid (o_u.out.below hb23)
  replace HB := Lib.hid (HB.out.trans (hb23.mono HB.out.size))
  have B_u := Lib.hid hn23
  have t23 := Lib.hid (lt_of hn23)
  clear hn23 hb23
  obtain ⟨c_r_0, c_r_1⟩ := cells2 B_r.out
  have l_r := lt_of B_r.out
  obtain ⟨c_g_0, c_g_1⟩ := cells2 B_g.out
  have l_g := lt_of B_g.out
  obtain ⟨c_u_0, c_u_1⟩ := cells2 B_u.out
  have l_u := lt_of B_u.out
  go_at_call 16
  refine (eqNet_ok _ _ (chainNetworkR0 x0 x1) _ o_u.out.v o_r.out.v).mono ?_
  rintro e w24 ⟨rfl, hb24⟩
  have s24 := Lib.hid (show w23.heap.size ≤ w24.heap.size from hb24.size)
  clear c_r_0 c_r_1 l_r
  clear c_g_0 c_g_1 l_g
  clear c_u_0 c_u_1 l_u
  replace B_r := Lib.hid (blk_in B_r.out hb24)
  replace B_g := Lib.hid (blk_in B_g.out hb24)
  replace B_u := Lib.hid (blk_in B_u.out hb24)
  replace o_r := Lib.hid (o_r.out.below hb24)
  replace o_g := Lib.hid (o_g.out.below hb24)
  replace o_u := Lib.hid (o_u.out.below hb24)
  replace HB := Lib.hid (HB.out.trans (hb24.mono HB.out.size))
  clear hb24
  obtain ⟨c_r_0, c_r_1⟩ := cells2 B_r.out
  have l_r := lt_of B_r.out
  obtain ⟨c_g_0, c_g_1⟩ := cells2 B_g.out
  have l_g := lt_of B_g.out
  obtain ⟨c_u_0, c_u_1⟩ := cells2 B_u.out
  have l_u := lt_of B_u.out
  go_wp2_with fail
  go_at_call 30
  refine (heldNet_r _ (chainNetworkR0 x0 x1) (1) _ o_g.out.v (by omega) (by have := BD.out; omega)).mono ?_
  rintro e w25 ⟨rfl, hb25⟩
  have s25 := Lib.hid (show w24.heap.size ≤ w25.heap.size from hb25.size)
  clear c_r_0 c_r_1 l_r
  clear c_g_0 c_g_1 l_g
  clear c_u_0 c_u_1 l_u
  replace B_r := Lib.hid (blk_in B_r.out hb25)
  replace B_g := Lib.hid (blk_in B_g.out hb25)
  replace B_u := Lib.hid (blk_in B_u.out hb25)
  replace o_r := Lib.hid (o_r.out.below hb25)
  replace o_g := Lib.hid (o_g.out.below hb25)
  replace o_u := Lib.hid (o_u.out.below hb25)
  replace HB := Lib.hid (HB.out.trans (hb25.mono HB.out.size))
  clear hb25
  obtain ⟨c_r_0, c_r_1⟩ := cells2 B_r.out
  have l_r := lt_of B_r.out
  obtain ⟨c_g_0, c_g_1⟩ := cells2 B_g.out
  have l_g := lt_of B_g.out
  obtain ⟨c_u_0, c_u_1⟩ := cells2 B_u.out
  have l_u := lt_of B_u.out
  go_wp2_with fail
  go_ret
  exact ⟨rfl, HB.out⟩

end Go.Proofs.Ytmfagmfclehdbaa
