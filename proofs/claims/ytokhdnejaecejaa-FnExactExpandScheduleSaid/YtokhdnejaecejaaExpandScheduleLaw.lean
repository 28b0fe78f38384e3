/-
  The walk of the law FnExactExpandSchedule: it answers true and changes nothing that was there.
-/
import Derived.Test.YtokhdnejaecejaaExI
import Derived.Test.YtokhdnejaecejaaLawKit
import Derived.Deep.Cut
import Derived.Deep.RegionHeld3
namespace Go.Proofs.Ytokhdnejaecejaa
open Go.RowKit

set_option maxRecDepth 100000 in
set_option maxHeartbeats 40000000 in
theorem fnExactExpandSchedule_walk (v0 : Value) (x0 : List Lop) (w : World) (h0 : SlLo w v0 x0) :
    Calls Try.prog 7 #[v0] w fun e w' => e = .returned (.bool true) ∧ Below w.heap.size w w' := by
  have HA0 := Lib.hid h0
  clear h0
  have BD := Lib.hid (exp_bd x0)
  have HB := Lib.hid (Below.refl w.heap.size w)
  go_enter Try.func7, Try.ntmps7
  have HL0 := Lib.hid (show (0 : Int) ≤ 1048576 ∧ (1048576 : Int) ≤ 1048576 by omega)
  go_wp2_with fail
  go_at_call 33
  by_cases z0 : (((x0).length : Nat) : Int) ≤ 1048576
  case neg =>
    refine (szLo_h _ x0 (1048576) _ (HA0.out.below HB.out) HL0.out).mono ?_
    rintro e wz ⟨rfl, hb⟩
    rw [if_neg z0]
    go_wp2_with fail
    go_ret
    exact ⟨rfl, HB.out.trans (hb.mono HB.out.size)⟩
  refine (szLo_h _ x0 (1048576) _ (HA0.out.below HB.out) HL0.out).mono ?_
  rintro e w1 ⟨rfl, hb1⟩
  rw [if_pos z0]
  obtain ⟨l1, hl⟩ : ∃ l : Int, l = 1048576 - (((x0).length : Nat) : Int) := ⟨_, rfl⟩
  rw [← hl]
  have HL1 := Lib.hid (show 0 ≤ l1 ∧ l1 ≤ 1048576 by have := HL0.out; omega)
  have HS0 := Lib.hid (show (x0).length ≤ 1048576 by have := HL0.out; omega)
  have d1 : decide (l1 < 0) = false := decide_eq_false (by have := HL1.out; omega)
  clear hl z0
  have s1 := Lib.hid (show w.heap.size ≤ w1.heap.size from hb1.size)
  replace HB := Lib.hid (HB.out.trans (hb1.mono HB.out.size))
  clear hb1
  go_wp2_with fail
  go_at_call 35
  refine (toLo_h _ x0 _ (HA0.out.below HB.out) HS0.out).mono ?_
  rintro e w2 ⟨v_t0, rfl, o_t0, hb2⟩
  have s2 := Lib.hid (show w1.heap.size ≤ w2.heap.size from hb2.size)
  replace HB := Lib.hid (HB.out.trans (hb2.mono HB.out.size))
  obtain ⟨a_t0, k_t0, rfl⟩ := o_t0.shape
  replace o_t0 := Lib.hid o_t0
  clear hb2
  go_wp2_with fail
  go_at_call 34
  refine (sexp_w _ x0 _ o_t0.out.v).mono ?_
  rintro e w3 ⟨v_r0, rfl, o_r, hb3⟩
  have s3 := Lib.hid (show w2.heap.size ≤ w3.heap.size from hb3.size)
  replace o_t0 := Lib.hid (o_t0.out.below hb3)
  replace HB := Lib.hid (HB.out.trans (hb3.mono HB.out.size))
  obtain ⟨a_r0, k_r0, rfl⟩ := o_r.shape
  replace o_r := Lib.hid o_r
  clear hb3
  clear o_t0
  go_wp2_with fail
  go_at_call 35
  refine (toLo_h _ x0 _ (HA0.out.below HB.out) HS0.out).mono ?_
  rintro e w4 ⟨v_y0, rfl, o_y0, hb4⟩
  have s4 := Lib.hid (show w3.heap.size ≤ w4.heap.size from hb4.size)
  replace o_r := Lib.hid (o_r.out.below hb4)
  replace HB := Lib.hid (HB.out.trans (hb4.mono HB.out.size))
  obtain ⟨a_y0, k_y0, rfl⟩ := o_y0.shape
  replace o_y0 := Lib.hid o_y0
  clear hb4
  go_wp2_with fail
  go_at_call 36
  refine (iexp_w _ x0 _ o_y0.out.v).mono ?_
  rintro e w5 ⟨v_g0, rfl, o_g, hb5⟩
  have s5 := Lib.hid (show w4.heap.size ≤ w5.heap.size from hb5.size)
  replace o_r := Lib.hid (o_r.out.below hb5)
  replace o_y0 := Lib.hid (o_y0.out.below hb5)
  replace HB := Lib.hid (HB.out.trans (hb5.mono HB.out.size))
  obtain ⟨a_g0, k_g0, rfl⟩ := o_g.shape
  replace o_g := Lib.hid o_g
  clear hb5
  go_wp2_with fail
  go_at_call 22
  refine (eqS_ok _ _ (expR x0) _ o_g.out.v o_r.out.v).mono ?_
  rintro e w6 ⟨rfl, hb6⟩
  have s6 := Lib.hid (show w5.heap.size ≤ w6.heap.size from hb6.size)
  replace o_r := Lib.hid (o_r.out.below hb6)
  replace o_y0 := Lib.hid (o_y0.out.below hb6)
  replace o_g := Lib.hid (o_g.out.below hb6)
  replace HB := Lib.hid (HB.out.trans (hb6.mono HB.out.size))
  clear hb6
  go_wp2_with fail
  go_at_call 35
  refine (toLo_h _ x0 _ (HA0.out.below HB.out) HS0.out).mono ?_
  rintro e w7 ⟨v_z0, rfl, o_z0, hb7⟩
  have s7 := Lib.hid (show w6.heap.size ≤ w7.heap.size from hb7.size)
  replace o_r := Lib.hid (o_r.out.below hb7)
  replace o_y0 := Lib.hid (o_y0.out.below hb7)
  replace o_g := Lib.hid (o_g.out.below hb7)
  replace HB := Lib.hid (HB.out.trans (hb7.mono HB.out.size))
  obtain ⟨a_z0, k_z0, rfl⟩ := o_z0.shape
  replace o_z0 := Lib.hid o_z0
  clear hb7
  go_wp2_with fail
  go_at_call 30
  refine (eqsLo_ok _ _ x0 _ o_y0.out.v o_z0.out.v).mono ?_
  rintro e w8 ⟨rfl, hb8⟩
  have s8 := Lib.hid (show w7.heap.size ≤ w8.heap.size from hb8.size)
  replace o_r := Lib.hid (o_r.out.below hb8)
  replace o_y0 := Lib.hid (o_y0.out.below hb8)
  replace o_g := Lib.hid (o_g.out.below hb8)
  replace o_z0 := Lib.hid (o_z0.out.below hb8)
  replace HB := Lib.hid (HB.out.trans (hb8.mono HB.out.size))
  clear hb8
  clear o_z0
  go_wp2_with fail
  go_at_call 31
  refine (markLo_h (w3.heap.size) (w4.heap.size) _ x0 (1) _ o_y0.out (by omega) (by have := HS0.out; omega)).mono ?_
  rintro e w9 ⟨rfl, _, hO9⟩
  have s9 := Lib.hid (show w8.heap.size ≤ w9.heap.size from hO9.size)
  replace o_r := Lib.hid (o_r.out.out hO9 (by have := s1.out; have := s2.out; have := s3.out; have := s4.out; have := s5.out; have := s6.out; have := s7.out; have := s8.out; omega))
  replace o_g := Lib.hid (o_g.out.out hO9 (by have := s1.out; have := s2.out; have := s3.out; have := s4.out; have := s5.out; have := s6.out; have := s7.out; have := s8.out; omega))
  replace HB := Lib.hid (hO9.below HB.out HB.out.size (by have := s1.out; have := s2.out; have := s3.out; have := s4.out; have := s5.out; have := s6.out; have := s7.out; have := s8.out; omega))
  clear hO9
  clear o_y0
  have dk : decide (1 + 2 * (((x0).length : Nat) : Int) < 0) = false := decide_eq_false (by omega)
  go_wp2_with fail
  go_at_call 22
  refine (eqS_ok _ _ (expR x0) _ o_g.out.v o_r.out.v).mono ?_
  rintro e w10 ⟨rfl, hb10⟩
  have s10 := Lib.hid (show w9.heap.size ≤ w10.heap.size from hb10.size)
  replace o_r := Lib.hid (o_r.out.below hb10)
  replace o_g := Lib.hid (o_g.out.below hb10)
  replace HB := Lib.hid (HB.out.trans (hb10.mono HB.out.size))
  clear hb10
  go_wp2_with fail
  go_at_call 24
  refine (mark_h (w4.heap.size) (w5.heap.size) _ (expR x0) (1) _ o_g.out (by omega) (by have := BD.out; have := HS0.out; omega)).mono ?_
  rintro e w11 ⟨rfl, m_g, hO11⟩
  have s11 := Lib.hid (show w10.heap.size ≤ w11.heap.size from hO11.size)
  replace o_r := Lib.hid (o_r.out.out hO11 (by have := s1.out; have := s2.out; have := s3.out; have := s4.out; have := s5.out; have := s6.out; have := s7.out; have := s8.out; have := s9.out; have := s10.out; omega))
  replace HB := Lib.hid (hO11.below HB.out HB.out.size (by have := s1.out; have := s2.out; have := s3.out; have := s4.out; have := s5.out; have := s6.out; have := s7.out; have := s8.out; have := s9.out; have := s10.out; omega))
  clear o_g
  have o_g := Lib.hid m_g
  clear m_g
  clear hO11
  have dm0 : decide (1 + ((((expR x0)).length : Nat) : Int) < 0) = false := decide_eq_false (by omega)
  go_wp2_with fail
  go_at_call 25
  refine (held_any _ (1) ((expR x0)).length _ o_g.out.v (by omega) (by have := BD.out; have := HS0.out; omega) (by have := BD.out; have := HS0.out; omega)).mono ?_
  rintro e wq ⟨rfl, rfl⟩
  go_wp2_with fail
  go_at_call 35
  refine (toLo_h _ x0 _ (HA0.out.below HB.out) HS0.out).mono ?_
  rintro e w12 ⟨v_q0, rfl, o_q0, hb12⟩
  have s12 := Lib.hid (show w11.heap.size ≤ w12.heap.size from hb12.size)
  replace o_r := Lib.hid (o_r.out.below hb12)
  replace o_g := Lib.hid (o_g.out.below hb12)
  replace HB := Lib.hid (HB.out.trans (hb12.mono HB.out.size))
  obtain ⟨a_q0, k_q0, rfl⟩ := o_q0.shape
  replace o_q0 := Lib.hid o_q0
  clear hb12
  go_wp2_with fail
  go_at_call 36
  refine (iexp_w _ x0 _ o_q0.out.v).mono ?_
  rintro e w13 ⟨v_u0, rfl, o_u, hb13⟩
  have s13 := Lib.hid (show w12.heap.size ≤ w13.heap.size from hb13.size)
  replace o_r := Lib.hid (o_r.out.below hb13)
  replace o_g := Lib.hid (o_g.out.below hb13)
  replace o_q0 := Lib.hid (o_q0.out.below hb13)
  replace HB := Lib.hid (HB.out.trans (hb13.mono HB.out.size))
  obtain ⟨a_u0, k_u0, rfl⟩ := o_u.shape
  replace o_u := Lib.hid o_u
  clear hb13
  clear o_q0
  go_wp2_with fail
  go_at_call 22
  refine (eqS_ok _ _ (expR x0) _ o_u.out.v o_r.out.v).mono ?_
  rintro e w14 ⟨rfl, hb14⟩
  have s14 := Lib.hid (show w13.heap.size ≤ w14.heap.size from hb14.size)
  replace o_r := Lib.hid (o_r.out.below hb14)
  replace o_g := Lib.hid (o_g.out.below hb14)
  replace o_u := Lib.hid (o_u.out.below hb14)
  replace HB := Lib.hid (HB.out.trans (hb14.mono HB.out.size))
  clear hb14
  go_wp2_with fail
  go_at_call 25
  refine (held_any _ (1) ((expR x0)).length _ o_g.out.v (by omega) (by have := BD.out; have := HS0.out; omega) (by have := BD.out; have := HS0.out; omega)).mono ?_
  rintro e wq ⟨rfl, rfl⟩
  go_wp2_with fail
  go_ret
  exact ⟨rfl, HB.out⟩

end Go.Proofs.Ytokhdnejaecejaa
