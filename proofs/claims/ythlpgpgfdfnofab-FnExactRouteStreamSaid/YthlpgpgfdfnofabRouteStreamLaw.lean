/-
  The walk of the law FnExactRouteStream: it answers true and changes nothing that was there.
-/
import Derived.Test.YthlpgpgfdfnofabRoute
import Derived.Test.YthlpgpgfdfnofabEq
import Derived.Test.YthlpgpgfdfnofabCopy
namespace Go.Proofs.Ythlpgpgfdfnofab
open Go.RowKit

set_option maxHeartbeats 1600000 in
theorem fnExactRouteStream_core (p0 : Option Addr) (c0 : Nat) (x0 : List Int) (x1 : Int) (w : World) (h0 : Sl w (.slice p0 x0.length c0) x0) (h1 : (Lit.int .i64 x1).wf = true) (hs0 : x0.length ≤ 1048576) :
    Calls Try.prog 3 #[.slice p0 x0.length c0, .int .i64 x1] w fun e w' => e = .returned (.bool true) ∧ Below w.heap.size w w' := by
  have H0 := Lib.hid h0
  clear h0
  have hB := Below.refl w.heap.size w
  have hl0 := Lib.hid (routeStream_len0 x0 x1)
  have hl1 := Lib.hid (routeStream_len1 x0 x1)
  go_enter Try.func3, Try.ntmps3
  go_wp2_with fail
  refine (toInt_any _ x0 _ (H0.out.below hB) hs0).mono ?_
  rintro e w1 ⟨t0, rfl, o_t0, hb1⟩
  replace o_t0 := o_t0.mono hB.size
  replace hB := hB.trans (hb1.mono hB.size)
  clear hb1
  go_wp2_with fail
  refine (sroute_any _ x0 x1 _ o_t0.sl h1).mono ?_
  have q_t0 := o_t0
  rintro e w2 ⟨r0, r1, rfl, o_r0, o_r1, ap_r0_r1, hb2⟩
  replace o_t0 := o_t0.below hb2
  have ap_t0_r0 := Apart.of_lt q_t0 o_r0 (Nat.le_refl _)
  have ap_t0_r1 := Apart.of_lt q_t0 o_r1 (Nat.le_refl _)
  clear q_t0
  replace o_r0 := o_r0.mono hB.size
  replace o_r1 := o_r1.mono hB.size
  replace hB := hB.trans (hb2.mono hB.size)
  clear hb2
  clear o_t0
  go_wp2_with fail
  refine (toInt_any _ x0 _ (H0.out.below hB) hs0).mono ?_
  have q_r0 := o_r0
  have q_r1 := o_r1
  rintro e w3 ⟨y0, rfl, o_y0, hb3⟩
  replace o_r0 := o_r0.below hb3
  replace o_r1 := o_r1.below hb3
  have ap_r0_y0 := Apart.of_lt q_r0 o_y0 (Nat.le_refl _)
  have ap_r1_y0 := Apart.of_lt q_r1 o_y0 (Nat.le_refl _)
  clear q_r0
  clear q_r1
  replace o_y0 := o_y0.mono hB.size
  replace hB := hB.trans (hb3.mono hB.size)
  clear hb3
  go_wp2_with fail
  refine (iroute_any _ x0 x1 _ o_y0.sl h1).mono ?_
  have q_r0 := o_r0
  have q_r1 := o_r1
  have q_y0 := o_y0
  rintro e w4 ⟨g0, g1, rfl, o_g0, o_g1, ap_g0_g1, hb4⟩
  replace o_r0 := o_r0.below hb4
  replace o_r1 := o_r1.below hb4
  replace o_y0 := o_y0.below hb4
  have ap_r0_g0 := Apart.of_lt q_r0 o_g0 (Nat.le_refl _)
  have ap_r1_g0 := Apart.of_lt q_r1 o_g0 (Nat.le_refl _)
  have ap_y0_g0 := Apart.of_lt q_y0 o_g0 (Nat.le_refl _)
  have ap_r0_g1 := Apart.of_lt q_r0 o_g1 (Nat.le_refl _)
  have ap_r1_g1 := Apart.of_lt q_r1 o_g1 (Nat.le_refl _)
  have ap_y0_g1 := Apart.of_lt q_y0 o_g1 (Nat.le_refl _)
  clear q_r0
  clear q_r1
  clear q_y0
  replace o_g0 := o_g0.mono hB.size
  replace o_g1 := o_g1.mono hB.size
  replace hB := hB.trans (hb4.mono hB.size)
  clear hb4
  go_wp2_with fail
  refine (eqS_ok _ _ _ _ o_g0.sl o_r0.sl).mono ?_
  rintro e w5 ⟨rfl, hb5⟩
  replace o_r0 := o_r0.below hb5
  replace o_r1 := o_r1.below hb5
  replace o_y0 := o_y0.below hb5
  replace o_g0 := o_g0.below hb5
  replace o_g1 := o_g1.below hb5
  replace hB := hB.trans (hb5.mono hB.size)
  clear hb5
  go_wp2_with fail
  refine (eqS_ok _ _ _ _ o_g1.sl o_r1.sl).mono ?_
  rintro e w6 ⟨rfl, hb6⟩
  replace o_r0 := o_r0.below hb6
  replace o_r1 := o_r1.below hb6
  replace o_y0 := o_y0.below hb6
  replace o_g0 := o_g0.below hb6
  replace o_g1 := o_g1.below hb6
  replace hB := hB.trans (hb6.mono hB.size)
  clear hb6
  go_wp2_with fail
  refine (toInt_any _ x0 _ (H0.out.below hB) hs0).mono ?_
  have q_r0 := o_r0
  have q_r1 := o_r1
  have q_y0 := o_y0
  have q_g0 := o_g0
  have q_g1 := o_g1
  rintro e w7 ⟨z0, rfl, o_z0, hb7⟩
  replace o_r0 := o_r0.below hb7
  replace o_r1 := o_r1.below hb7
  replace o_y0 := o_y0.below hb7
  replace o_g0 := o_g0.below hb7
  replace o_g1 := o_g1.below hb7
  have ap_r0_z0 := Apart.of_lt q_r0 o_z0 (Nat.le_refl _)
  have ap_r1_z0 := Apart.of_lt q_r1 o_z0 (Nat.le_refl _)
  have ap_y0_z0 := Apart.of_lt q_y0 o_z0 (Nat.le_refl _)
  have ap_g0_z0 := Apart.of_lt q_g0 o_z0 (Nat.le_refl _)
  have ap_g1_z0 := Apart.of_lt q_g1 o_z0 (Nat.le_refl _)
  clear q_r0
  clear q_r1
  clear q_y0
  clear q_g0
  clear q_g1
  replace o_z0 := o_z0.mono hB.size
  replace hB := hB.trans (hb7.mono hB.size)
  clear hb7
  go_wp2_with fail
  refine (eqS_ok _ _ _ _ o_y0.sl o_z0.sl).mono ?_
  rintro e w8 ⟨rfl, hb8⟩
  replace o_r0 := o_r0.below hb8
  replace o_r1 := o_r1.below hb8
  replace o_y0 := o_y0.below hb8
  replace o_g0 := o_g0.below hb8
  replace o_g1 := o_g1.below hb8
  replace o_z0 := o_z0.below hb8
  replace hB := hB.trans (hb8.mono hB.size)
  clear hb8
  clear o_z0
  go_wp2_with fail
  refine (mark_any _ _ (x0) _ _ o_y0 (by omega) (by have := hs0; omega) (by have := hs0; omega)).mono ?_
  rintro e w9 ⟨rfl, m_y0, hg9⟩
  replace o_r0 := o_r0.kept hg9 ap_r0_y0
  replace o_r1 := o_r1.kept hg9 ap_r1_y0
  replace o_g0 := o_g0.kept hg9 ap_y0_g0.symm
  replace o_g1 := o_g1.kept hg9 ap_y0_g1.symm
  replace hB := hB.grown hg9 hB.size (fun k e => (Own.lt o_y0 k e).1)
  clear hg9 o_y0
  have o_y0 := m_y0
  clear m_y0
  go_wp2_with fail
  refine (eqS_ok _ _ _ _ o_g0.sl o_r0.sl).mono ?_
  rintro e w10 ⟨rfl, hb10⟩
  replace o_r0 := o_r0.below hb10
  replace o_r1 := o_r1.below hb10
  replace o_y0 := o_y0.below hb10
  replace o_g0 := o_g0.below hb10
  replace o_g1 := o_g1.below hb10
  replace hB := hB.trans (hb10.mono hB.size)
  clear hb10
  go_wp2_with fail
  refine (eqS_ok _ _ _ _ o_g1.sl o_r1.sl).mono ?_
  rintro e w11 ⟨rfl, hb11⟩
  replace o_r0 := o_r0.below hb11
  replace o_r1 := o_r1.below hb11
  replace o_y0 := o_y0.below hb11
  replace o_g0 := o_g0.below hb11
  replace o_g1 := o_g1.below hb11
  replace hB := hB.trans (hb11.mono hB.size)
  clear hb11
  clear o_y0
  go_wp2_with fail
  refine (mark_any _ _ (routeStreamR0 x0 x1) _ _ o_g0 (by omega) (by have := hl0.out; have := hl1.out; omega) (by have := hl0.out; have := hl1.out; omega)).mono ?_
  rintro e w12 ⟨rfl, m_g0, hg12⟩
  replace o_r0 := o_r0.kept hg12 ap_r0_g0
  replace o_r1 := o_r1.kept hg12 ap_r1_g0
  replace o_g1 := o_g1.kept hg12 ap_g0_g1.symm
  replace hB := hB.grown hg12 hB.size (fun k e => (Own.lt o_g0 k e).1)
  clear hg12 o_g0
  have o_g0 := m_g0
  clear m_g0
  go_wp2_with fail
  refine (mark_any _ _ (routeStreamR1 x0 x1) _ _ o_g1 (by omega) (by have := hl0.out; have := hl1.out; omega) (by have := hl0.out; have := hl1.out; omega)).mono ?_
  rintro e w13 ⟨rfl, m_g1, hg13⟩
  replace o_r0 := o_r0.kept hg13 ap_r0_g1
  replace o_r1 := o_r1.kept hg13 ap_r1_g1
  replace o_g0 := o_g0.kept hg13 ap_g0_g1
  replace hB := hB.grown hg13 hB.size (fun k e => (Own.lt o_g1 k e).1)
  clear hg13 o_g1
  have o_g1 := m_g1
  clear m_g1
  go_wp2_with fail
  refine (held_any _ (1) (routeStreamR0 x0 x1).length _ o_g0.sl (by omega) (by have := hl0.out; have := hl1.out; omega) (by have := hl0.out; have := hl1.out; omega)).mono ?_
  rintro e w' ⟨rfl, rfl⟩
  go_wp2_with fail
  refine (held_any _ (1 + ((routeStreamR0 x0 x1).length : Int)) (routeStreamR1 x0 x1).length _ o_g1.sl (by omega) (by have := hl0.out; have := hl1.out; omega) (by have := hl0.out; have := hl1.out; omega)).mono ?_
  rintro e w' ⟨rfl, rfl⟩
  go_wp2_with fail
  refine (toInt_any _ x0 _ (H0.out.below hB) hs0).mono ?_
  have q_r0 := o_r0
  have q_r1 := o_r1
  have q_g0 := o_g0
  have q_g1 := o_g1
  rintro e w16 ⟨u0, rfl, o_u0, hb16⟩
  replace o_r0 := o_r0.below hb16
  replace o_r1 := o_r1.below hb16
  replace o_g0 := o_g0.below hb16
  replace o_g1 := o_g1.below hb16
  have ap_r0_u0 := Apart.of_lt q_r0 o_u0 (Nat.le_refl _)
  have ap_r1_u0 := Apart.of_lt q_r1 o_u0 (Nat.le_refl _)
  have ap_g0_u0 := Apart.of_lt q_g0 o_u0 (Nat.le_refl _)
  have ap_g1_u0 := Apart.of_lt q_g1 o_u0 (Nat.le_refl _)
  clear q_r0
  clear q_r1
  clear q_g0
  clear q_g1
  replace o_u0 := o_u0.mono hB.size
  replace hB := hB.trans (hb16.mono hB.size)
  clear hb16
  go_wp2_with fail
  refine (iroute_any _ x0 x1 _ o_u0.sl h1).mono ?_
  have q_r0 := o_r0
  have q_r1 := o_r1
  have q_g0 := o_g0
  have q_g1 := o_g1
  have q_u0 := o_u0
  rintro e w17 ⟨k0, k1, rfl, o_k0, o_k1, ap_k0_k1, hb17⟩
  replace o_r0 := o_r0.below hb17
  replace o_r1 := o_r1.below hb17
  replace o_g0 := o_g0.below hb17
  replace o_g1 := o_g1.below hb17
  replace o_u0 := o_u0.below hb17
  have ap_r0_k0 := Apart.of_lt q_r0 o_k0 (Nat.le_refl _)
  have ap_r1_k0 := Apart.of_lt q_r1 o_k0 (Nat.le_refl _)
  have ap_g0_k0 := Apart.of_lt q_g0 o_k0 (Nat.le_refl _)
  have ap_g1_k0 := Apart.of_lt q_g1 o_k0 (Nat.le_refl _)
  have ap_u0_k0 := Apart.of_lt q_u0 o_k0 (Nat.le_refl _)
  have ap_r0_k1 := Apart.of_lt q_r0 o_k1 (Nat.le_refl _)
  have ap_r1_k1 := Apart.of_lt q_r1 o_k1 (Nat.le_refl _)
  have ap_g0_k1 := Apart.of_lt q_g0 o_k1 (Nat.le_refl _)
  have ap_g1_k1 := Apart.of_lt q_g1 o_k1 (Nat.le_refl _)
  have ap_u0_k1 := Apart.of_lt q_u0 o_k1 (Nat.le_refl _)
  clear q_r0
  clear q_r1
  clear q_g0
  clear q_g1
  clear q_u0
  replace o_k0 := o_k0.mono hB.size
  replace o_k1 := o_k1.mono hB.size
  replace hB := hB.trans (hb17.mono hB.size)
  clear hb17
  clear o_u0
  go_wp2_with fail
  refine (eqS_ok _ _ _ _ o_k0.sl o_r0.sl).mono ?_
  rintro e w18 ⟨rfl, hb18⟩
  replace o_r0 := o_r0.below hb18
  replace o_r1 := o_r1.below hb18
  replace o_g0 := o_g0.below hb18
  replace o_g1 := o_g1.below hb18
  replace o_k0 := o_k0.below hb18
  replace o_k1 := o_k1.below hb18
  replace hB := hB.trans (hb18.mono hB.size)
  clear hb18
  go_wp2_with fail
  refine (eqS_ok _ _ _ _ o_k1.sl o_r1.sl).mono ?_
  rintro e w19 ⟨rfl, hb19⟩
  replace o_r0 := o_r0.below hb19
  replace o_r1 := o_r1.below hb19
  replace o_g0 := o_g0.below hb19
  replace o_g1 := o_g1.below hb19
  replace o_k0 := o_k0.below hb19
  replace o_k1 := o_k1.below hb19
  replace hB := hB.trans (hb19.mono hB.size)
  clear hb19
  go_wp2_with fail
  refine (held_any _ (1) (routeStreamR0 x0 x1).length _ o_g0.sl (by omega) (by have := hl0.out; have := hl1.out; omega) (by have := hl0.out; have := hl1.out; omega)).mono ?_
  rintro e w' ⟨rfl, rfl⟩
  go_wp2_with fail
  refine (held_any _ (1 + ((routeStreamR0 x0 x1).length : Int)) (routeStreamR1 x0 x1).length _ o_g1.sl (by omega) (by have := hl0.out; have := hl1.out; omega) (by have := hl0.out; have := hl1.out; omega)).mono ?_
  rintro e w' ⟨rfl, rfl⟩
  go_wp2_with fail
  go_ret
  exact ⟨rfl, hB⟩

set_option maxHeartbeats 400000 in
theorem fnExactRouteStream_walk {a0 : Value} {x0 : List Int} {x1 : Int} (w : World) (h0 : Sl w a0 x0) (h1 : (Lit.int .i64 x1).wf = true) :
    Calls Try.prog 3 #[a0, .int .i64 x1] w fun e w' => e = .returned (.bool true) ∧ Below w.heap.size w w' := by
  obtain ⟨p0, c0, rfl, r0⟩ := h0
  have H0 := Lib.hid (show Sl w _ x0 from ⟨p0, c0, rfl, r0⟩)
  have b0 : x0.length ≤ 9223372036854775807 := by have := r0.1; have := r0.2.1; unfold maxLen at this; omega
  clear r0
  by_cases hs0 : x0.length ≤ 1048576
  · exact fnExactRouteStream_core p0 c0 x0 x1 _ H0.out h1 hs0
  · go_enter Try.func3, Try.ntmps3
    go_wp2_with fail
    go_ret
    exact ⟨rfl, Below.refl _ _⟩

end Go.Proofs.Ythlpgpgfdfnofab
