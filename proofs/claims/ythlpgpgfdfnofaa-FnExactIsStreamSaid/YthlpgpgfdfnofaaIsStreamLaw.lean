/-
  The walk of the law FnExactIsStream: it answers true and changes nothing that was there.
-/
import Derived.Test.YthlpgpgfdfnofaaStream
import Derived.Test.YthlpgpgfdfnofaaEq
import Derived.Test.YthlpgpgfdfnofaaCopy
namespace Go.Proofs.Ythlpgpgfdfnofaa
open Go.RowKit

set_option maxHeartbeats 1600000 in
theorem fnExactIsStream_core (p0 : Option Addr) (c0 : Nat) (x0 : List Int) (w : World) (h0 : Sl w (.slice p0 x0.length c0) x0) (hs0 : x0.length ≤ 1048576) :
    Calls Try.prog 7 #[.slice p0 x0.length c0] w fun e w' => e = .returned (.bool true) ∧ Below w.heap.size w w' := by
  have H0 := Lib.hid h0
  clear h0
  have hB := Below.refl w.heap.size w
  go_enter Try.func7, Try.ntmps7
  go_wp2_with fail
  refine (toInt_any _ x0 _ (H0.out.below hB) hs0).mono ?_
  rintro e w1 ⟨t0, rfl, o_t0, hb1⟩
  replace o_t0 := o_t0.mono hB.size
  replace hB := hB.trans (hb1.mono hB.size)
  clear hb1
  go_wp2_with fail
  refine (sstreamB _ x0 _ o_t0.sl).mono ?_
  have q_t0 := o_t0
  rintro e w2 ⟨rfl, hb2⟩
  replace o_t0 := o_t0.below hb2
  replace hB := hB.trans (hb2.mono hB.size)
  clear hb2
  clear o_t0
  go_wp2_with fail
  refine (toInt_any _ x0 _ (H0.out.below hB) hs0).mono ?_
  rintro e w3 ⟨y0, rfl, o_y0, hb3⟩
  replace o_y0 := o_y0.mono hB.size
  replace hB := hB.trans (hb3.mono hB.size)
  clear hb3
  go_wp2_with fail
  refine (istreamB _ x0 _ o_y0.sl).mono ?_
  have q_y0 := o_y0
  rintro e w4 ⟨rfl, hb4⟩
  replace o_y0 := o_y0.below hb4
  replace hB := hB.trans (hb4.mono hB.size)
  clear hb4
  go_wp2_with fail
  refine (toInt_any _ x0 _ (H0.out.below hB) hs0).mono ?_
  have q_y0 := o_y0
  rintro e w5 ⟨z0, rfl, o_z0, hb5⟩
  replace o_y0 := o_y0.below hb5
  have ap_y0_z0 := Apart.of_lt q_y0 o_z0 (Nat.le_refl _)
  clear q_y0
  replace o_z0 := o_z0.mono hB.size
  replace hB := hB.trans (hb5.mono hB.size)
  clear hb5
  go_wp2_with fail
  refine (eqS_ok _ _ _ _ o_y0.sl o_z0.sl).mono ?_
  rintro e w6 ⟨rfl, hb6⟩
  replace o_y0 := o_y0.below hb6
  replace o_z0 := o_z0.below hb6
  replace hB := hB.trans (hb6.mono hB.size)
  clear hb6
  clear o_z0
  go_wp2_with fail
  go_ret
  exact ⟨rfl, hB⟩

set_option maxHeartbeats 400000 in
theorem fnExactIsStream_walk {a0 : Value} {x0 : List Int} (w : World) (h0 : Sl w a0 x0) :
    Calls Try.prog 7 #[a0] w fun e w' => e = .returned (.bool true) ∧ Below w.heap.size w w' := by
  obtain ⟨p0, c0, rfl, r0⟩ := h0
  have H0 := Lib.hid (show Sl w _ x0 from ⟨p0, c0, rfl, r0⟩)
  have b0 : x0.length ≤ 9223372036854775807 := by have := r0.1; have := r0.2.1; unfold maxLen at this; omega
  clear r0
  by_cases hs0 : x0.length ≤ 1048576
  · exact fnExactIsStream_core p0 c0 x0 _ H0.out hs0
  · go_enter Try.func7, Try.ntmps7
    go_wp2_with fail
    go_ret
    exact ⟨rfl, Below.refl _ _⟩

end Go.Proofs.Ythlpgpgfdfnofaa
