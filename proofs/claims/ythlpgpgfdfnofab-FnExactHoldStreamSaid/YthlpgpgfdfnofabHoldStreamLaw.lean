/-
  The walk of the law FnExactHoldStream: it answers true and changes nothing that was there.
-/
import Derived.Test.YthlpgpgfdfnofabHold2
import Derived.Test.YthlpgpgfdfnofabEq
import Derived.Test.YthlpgpgfdfnofabCopy
namespace Go.Proofs.Ythlpgpgfdfnofab
open Go.RowKit

set_option maxHeartbeats 1600000 in
theorem fnExactHoldStream_core (p0 : Option Addr) (c0 : Nat) (x0 : List Int) (x1 : Int) (w : World) (h0 : Sl w (.slice p0 x0.length c0) x0) (h1 : (Lit.int .i64 x1).wf = true) (hs0 : x0.length ≤ 1048576) :
    Calls Try.prog 6 #[.slice p0 x0.length c0, .int .i64 x1] w fun e w' => e = .returned (.bool true) ∧ Below w.heap.size w w' := by
  have H0 := Lib.hid h0
  clear h0
  have hB := Below.refl w.heap.size w
  have hl0 := Lib.hid (holdStream_len0 x0 x1)
  go_enter Try.func6, Try.ntmps6
  go_wp2_with fail
  refine (toInt_any _ x0 _ (H0.out.below hB) hs0).mono ?_
  rintro e w1 ⟨t0, rfl, o_t0, hb1⟩
  replace o_t0 := o_t0.mono hB.size
  replace hB := hB.trans (hb1.mono hB.size)
  clear hb1
  go_wp2_with fail
  refine (shold_any _ x0 x1 _ o_t0.sl h1).mono ?_
  have q_t0 := o_t0
  rintro e w2 ⟨r0, rfl, o_r0, hb2⟩
  replace o_t0 := o_t0.below hb2
  have ap_t0_r0 := Apart.of_lt q_t0 o_r0 (Nat.le_refl _)
  clear q_t0
  replace o_r0 := o_r0.mono hB.size
  replace hB := hB.trans (hb2.mono hB.size)
  clear hb2
  clear o_t0
  go_wp2_with fail
  refine (toInt_any _ x0 _ (H0.out.below hB) hs0).mono ?_
  have q_r0 := o_r0
  rintro e w3 ⟨y0, rfl, o_y0, hb3⟩
  replace o_r0 := o_r0.below hb3
  have ap_r0_y0 := Apart.of_lt q_r0 o_y0 (Nat.le_refl _)
  clear q_r0
  replace o_y0 := o_y0.mono hB.size
  replace hB := hB.trans (hb3.mono hB.size)
  clear hb3
  go_wp2_with fail
  refine (ihold_any _ x0 x1 _ o_y0.sl h1).mono ?_
  have q_r0 := o_r0
  have q_y0 := o_y0
  rintro e w4 ⟨g0, rfl, o_g0, hb4⟩
  replace o_r0 := o_r0.below hb4
  replace o_y0 := o_y0.below hb4
  have ap_r0_g0 := Apart.of_lt q_r0 o_g0 (Nat.le_refl _)
  have ap_y0_g0 := Apart.of_lt q_y0 o_g0 (Nat.le_refl _)
  clear q_r0
  clear q_y0
  replace o_g0 := o_g0.mono hB.size
  replace hB := hB.trans (hb4.mono hB.size)
  clear hb4
  go_wp2_with fail
  refine (eqS_ok _ _ _ _ o_g0.sl o_r0.sl).mono ?_
  rintro e w5 ⟨rfl, hb5⟩
  replace o_r0 := o_r0.below hb5
  replace o_y0 := o_y0.below hb5
  replace o_g0 := o_g0.below hb5
  replace hB := hB.trans (hb5.mono hB.size)
  clear hb5
  go_wp2_with fail
  refine (toInt_any _ x0 _ (H0.out.below hB) hs0).mono ?_
  have q_r0 := o_r0
  have q_y0 := o_y0
  have q_g0 := o_g0
  rintro e w6 ⟨z0, rfl, o_z0, hb6⟩
  replace o_r0 := o_r0.below hb6
  replace o_y0 := o_y0.below hb6
  replace o_g0 := o_g0.below hb6
  have ap_r0_z0 := Apart.of_lt q_r0 o_z0 (Nat.le_refl _)
  have ap_y0_z0 := Apart.of_lt q_y0 o_z0 (Nat.le_refl _)
  have ap_g0_z0 := Apart.of_lt q_g0 o_z0 (Nat.le_refl _)
  clear q_r0
  clear q_y0
  clear q_g0
  replace o_z0 := o_z0.mono hB.size
  replace hB := hB.trans (hb6.mono hB.size)
  clear hb6
  go_wp2_with fail
  refine (eqS_ok _ _ _ _ o_y0.sl o_z0.sl).mono ?_
  rintro e w7 ⟨rfl, hb7⟩
  replace o_r0 := o_r0.below hb7
  replace o_y0 := o_y0.below hb7
  replace o_g0 := o_g0.below hb7
  replace o_z0 := o_z0.below hb7
  replace hB := hB.trans (hb7.mono hB.size)
  clear hb7
  clear o_z0
  go_wp2_with fail
  refine (mark_any _ _ (x0) _ _ o_y0 (by omega) (by have := hs0; omega) (by have := hs0; omega)).mono ?_
  rintro e w8 ⟨rfl, m_y0, hg8⟩
  replace o_r0 := o_r0.kept hg8 ap_r0_y0
  replace o_g0 := o_g0.kept hg8 ap_y0_g0.symm
  replace hB := hB.grown hg8 hB.size (fun k e => (Own.lt o_y0 k e).1)
  clear hg8 o_y0
  have o_y0 := m_y0
  clear m_y0
  go_wp2_with fail
  refine (eqS_ok _ _ _ _ o_g0.sl o_r0.sl).mono ?_
  rintro e w9 ⟨rfl, hb9⟩
  replace o_r0 := o_r0.below hb9
  replace o_y0 := o_y0.below hb9
  replace o_g0 := o_g0.below hb9
  replace hB := hB.trans (hb9.mono hB.size)
  clear hb9
  clear o_y0
  go_wp2_with fail
  refine (mark_any _ _ (holdStreamR0 x0 x1) _ _ o_g0 (by omega) (by have := hl0.out; omega) (by have := hl0.out; omega)).mono ?_
  rintro e w10 ⟨rfl, m_g0, hg10⟩
  replace o_r0 := o_r0.kept hg10 ap_r0_g0
  replace hB := hB.grown hg10 hB.size (fun k e => (Own.lt o_g0 k e).1)
  clear hg10 o_g0
  have o_g0 := m_g0
  clear m_g0
  go_wp2_with fail
  refine (held_any _ (1) (holdStreamR0 x0 x1).length _ o_g0.sl (by omega) (by have := hl0.out; omega) (by have := hl0.out; omega)).mono ?_
  rintro e w' ⟨rfl, rfl⟩
  go_wp2_with fail
  refine (toInt_any _ x0 _ (H0.out.below hB) hs0).mono ?_
  have q_r0 := o_r0
  have q_g0 := o_g0
  rintro e w12 ⟨u0, rfl, o_u0, hb12⟩
  replace o_r0 := o_r0.below hb12
  replace o_g0 := o_g0.below hb12
  have ap_r0_u0 := Apart.of_lt q_r0 o_u0 (Nat.le_refl _)
  have ap_g0_u0 := Apart.of_lt q_g0 o_u0 (Nat.le_refl _)
  clear q_r0
  clear q_g0
  replace o_u0 := o_u0.mono hB.size
  replace hB := hB.trans (hb12.mono hB.size)
  clear hb12
  go_wp2_with fail
  refine (ihold_any _ x0 x1 _ o_u0.sl h1).mono ?_
  have q_r0 := o_r0
  have q_g0 := o_g0
  have q_u0 := o_u0
  rintro e w13 ⟨k0, rfl, o_k0, hb13⟩
  replace o_r0 := o_r0.below hb13
  replace o_g0 := o_g0.below hb13
  replace o_u0 := o_u0.below hb13
  have ap_r0_k0 := Apart.of_lt q_r0 o_k0 (Nat.le_refl _)
  have ap_g0_k0 := Apart.of_lt q_g0 o_k0 (Nat.le_refl _)
  have ap_u0_k0 := Apart.of_lt q_u0 o_k0 (Nat.le_refl _)
  clear q_r0
  clear q_g0
  clear q_u0
  replace o_k0 := o_k0.mono hB.size
  replace hB := hB.trans (hb13.mono hB.size)
  clear hb13
  clear o_u0
  go_wp2_with fail
  refine (eqS_ok _ _ _ _ o_k0.sl o_r0.sl).mono ?_
  rintro e w14 ⟨rfl, hb14⟩
  replace o_r0 := o_r0.below hb14
  replace o_g0 := o_g0.below hb14
  replace o_k0 := o_k0.below hb14
  replace hB := hB.trans (hb14.mono hB.size)
  clear hb14
  go_wp2_with fail
  refine (held_any _ (1) (holdStreamR0 x0 x1).length _ o_g0.sl (by omega) (by have := hl0.out; omega) (by have := hl0.out; omega)).mono ?_
  rintro e w' ⟨rfl, rfl⟩
  go_wp2_with fail
  go_ret
  exact ⟨rfl, hB⟩

set_option maxHeartbeats 400000 in
theorem fnExactHoldStream_walk {a0 : Value} {x0 : List Int} {x1 : Int} (w : World) (h0 : Sl w a0 x0) (h1 : (Lit.int .i64 x1).wf = true) :
    Calls Try.prog 6 #[a0, .int .i64 x1] w fun e w' => e = .returned (.bool true) ∧ Below w.heap.size w w' := by
  obtain ⟨p0, c0, rfl, r0⟩ := h0
  have H0 := Lib.hid (show Sl w _ x0 from ⟨p0, c0, rfl, r0⟩)
  have b0 : x0.length ≤ 9223372036854775807 := by have := r0.1; have := r0.2.1; unfold maxLen at this; omega
  clear r0
  by_cases hs0 : x0.length ≤ 1048576
  · exact fnExactHoldStream_core p0 c0 x0 x1 _ H0.out h1 hs0
  · go_enter Try.func6, Try.ntmps6
    go_wp2_with fail
    go_ret
    exact ⟨rfl, Below.refl _ _⟩

end Go.Proofs.Ythlpgpgfdfnofab
