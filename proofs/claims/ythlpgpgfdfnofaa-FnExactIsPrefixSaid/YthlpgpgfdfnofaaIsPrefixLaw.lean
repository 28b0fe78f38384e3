/-
  The walk of the law FnExactIsPrefix: it answers true and changes nothing that was there.
-/
import Derived.Test.YthlpgpgfdfnofaaPrefix
import Derived.Test.YthlpgpgfdfnofaaCopy
namespace Go.Proofs.Ythlpgpgfdfnofaa
open Go.RowKit

set_option maxHeartbeats 1600000 in
theorem fnExactIsPrefix_core (p0 : Option Addr) (c0 : Nat) (x0 : List Int) (p1 : Option Addr) (c1 : Nat) (x1 : List Int) (w : World) (h0 : Sl w (.slice p0 x0.length c0) x0) (h1 : Sl w (.slice p1 x1.length c1) x1) (hs0 : x0.length ≤ 1048576) (hs1 : x1.length ≤ 1048576) :
    Calls Try.prog 8 #[.slice p0 x0.length c0, .slice p1 x1.length c1] w fun e w' => e = .returned (.bool true) ∧ Below w.heap.size w w' := by
  have H0 := Lib.hid h0
  clear h0
  have H1 := Lib.hid h1
  clear h1
  have hB := Below.refl w.heap.size w
  go_enter Try.func8, Try.ntmps8
  go_wp2_with fail
  refine (toInt_any _ x0 _ (H0.out.below hB) hs0).mono ?_
  rintro e w1 ⟨t0, rfl, o_t0, hb1⟩
  replace o_t0 := o_t0.mono hB.size
  replace hB := hB.trans (hb1.mono hB.size)
  clear hb1
  go_wp2_with fail
  refine (toInt_any _ x1 _ (H1.out.below hB) hs1).mono ?_
  have q_t0 := o_t0
  rintro e w2 ⟨t1, rfl, o_t1, hb2⟩
  replace o_t0 := o_t0.below hb2
  have ap_t0_t1 := Apart.of_lt q_t0 o_t1 (Nat.le_refl _)
  clear q_t0
  replace o_t1 := o_t1.mono hB.size
  replace hB := hB.trans (hb2.mono hB.size)
  clear hb2
  go_wp2_with fail
  refine (sprefixB _ x0 _ x1 _ o_t0.sl o_t1.sl).mono ?_
  have q_t0 := o_t0
  have q_t1 := o_t1
  rintro e w3 ⟨rfl, hb3⟩
  replace o_t0 := o_t0.below hb3
  replace o_t1 := o_t1.below hb3
  replace hB := hB.trans (hb3.mono hB.size)
  clear hb3
  clear o_t0
  clear o_t1
  go_wp2_with fail
  refine (toInt_any _ x0 _ (H0.out.below hB) hs0).mono ?_
  rintro e w4 ⟨y0, rfl, o_y0, hb4⟩
  replace o_y0 := o_y0.mono hB.size
  replace hB := hB.trans (hb4.mono hB.size)
  clear hb4
  go_wp2_with fail
  refine (toInt_any _ x1 _ (H1.out.below hB) hs1).mono ?_
  have q_y0 := o_y0
  rintro e w5 ⟨y1, rfl, o_y1, hb5⟩
  replace o_y0 := o_y0.below hb5
  have ap_y0_y1 := Apart.of_lt q_y0 o_y1 (Nat.le_refl _)
  clear q_y0
  replace o_y1 := o_y1.mono hB.size
  replace hB := hB.trans (hb5.mono hB.size)
  clear hb5
  go_wp2_with fail
  refine (iprefixB _ x0 _ x1 _ o_y0.sl o_y1.sl).mono ?_
  have q_y0 := o_y0
  have q_y1 := o_y1
  rintro e w6 ⟨rfl, hb6⟩
  replace o_y0 := o_y0.below hb6
  replace o_y1 := o_y1.below hb6
  replace hB := hB.trans (hb6.mono hB.size)
  clear hb6
  go_wp2_with fail
  refine (toInt_any _ x0 _ (H0.out.below hB) hs0).mono ?_
  have q_y0 := o_y0
  have q_y1 := o_y1
  rintro e w7 ⟨z0, rfl, o_z0, hb7⟩
  replace o_y0 := o_y0.below hb7
  replace o_y1 := o_y1.below hb7
  have ap_y0_z0 := Apart.of_lt q_y0 o_z0 (Nat.le_refl _)
  have ap_y1_z0 := Apart.of_lt q_y1 o_z0 (Nat.le_refl _)
  clear q_y0
  clear q_y1
  replace o_z0 := o_z0.mono hB.size
  replace hB := hB.trans (hb7.mono hB.size)
  clear hb7
  go_wp2_with fail
  refine (eqS_ok _ _ _ _ o_y0.sl o_z0.sl).mono ?_
  rintro e w8 ⟨rfl, hb8⟩
  replace o_y0 := o_y0.below hb8
  replace o_y1 := o_y1.below hb8
  replace o_z0 := o_z0.below hb8
  replace hB := hB.trans (hb8.mono hB.size)
  clear hb8
  clear o_z0
  go_wp2_with fail
  refine (toInt_any _ x1 _ (H1.out.below hB) hs1).mono ?_
  have q_y0 := o_y0
  have q_y1 := o_y1
  rintro e w9 ⟨z1, rfl, o_z1, hb9⟩
  replace o_y0 := o_y0.below hb9
  replace o_y1 := o_y1.below hb9
  have ap_y0_z1 := Apart.of_lt q_y0 o_z1 (Nat.le_refl _)
  have ap_y1_z1 := Apart.of_lt q_y1 o_z1 (Nat.le_refl _)
  clear q_y0
  clear q_y1
  replace o_z1 := o_z1.mono hB.size
  replace hB := hB.trans (hb9.mono hB.size)
  clear hb9
  go_wp2_with fail
  refine (eqS_ok _ _ _ _ o_y1.sl o_z1.sl).mono ?_
  rintro e w10 ⟨rfl, hb10⟩
  replace o_y0 := o_y0.below hb10
  replace o_y1 := o_y1.below hb10
  replace o_z1 := o_z1.below hb10
  replace hB := hB.trans (hb10.mono hB.size)
  clear hb10
  clear o_z1
  go_wp2_with fail
  go_ret
  exact ⟨rfl, hB⟩

set_option maxHeartbeats 400000 in
theorem fnExactIsPrefix_walk {a0 : Value} {x0 : List Int} {a1 : Value} {x1 : List Int} (w : World) (h0 : Sl w a0 x0) (h1 : Sl w a1 x1) :
    Calls Try.prog 8 #[a0, a1] w fun e w' => e = .returned (.bool true) ∧ Below w.heap.size w w' := by
  obtain ⟨p0, c0, rfl, r0⟩ := h0
  have H0 := Lib.hid (show Sl w _ x0 from ⟨p0, c0, rfl, r0⟩)
  have b0 : x0.length ≤ 9223372036854775807 := by have := r0.1; have := r0.2.1; unfold maxLen at this; omega
  clear r0
  obtain ⟨p1, c1, rfl, r1⟩ := h1
  have H1 := Lib.hid (show Sl w _ x1 from ⟨p1, c1, rfl, r1⟩)
  have b1 : x1.length ≤ 9223372036854775807 := by have := r1.1; have := r1.2.1; unfold maxLen at this; omega
  clear r1
  by_cases hs0 : x0.length ≤ 1048576
  · by_cases hs1 : x1.length ≤ 1048576
    · exact fnExactIsPrefix_core p0 c0 x0 p1 c1 x1 _ H0.out H1.out hs0 hs1
    · go_enter Try.func8, Try.ntmps8
      go_wp2_with fail
      go_ret
      exact ⟨rfl, Below.refl _ _⟩
  · go_enter Try.func8, Try.ntmps8
    go_wp2_with fail
    go_ret
    exact ⟨rfl, Below.refl _ _⟩

end Go.Proofs.Ythlpgpgfdfnofaa
