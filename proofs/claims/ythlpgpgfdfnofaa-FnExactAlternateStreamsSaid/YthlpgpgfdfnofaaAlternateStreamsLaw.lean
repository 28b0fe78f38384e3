/-
  The walk of the law FnExactAlternateStreams: it answers true and changes nothing that was there.
-/
import Derived.Test.YthlpgpgfdfnofaaAlt
import Derived.Test.YthlpgpgfdfnofaaCopy
namespace Go.Proofs.Ythlpgpgfdfnofaa
open Go.RowKit

set_option maxHeartbeats 1600000 in
theorem fnExactAlternateStreams_core (p0 : Option Addr) (c0 : Nat) (x0 : List Int) (p1 : Option Addr) (c1 : Nat) (x1 : List Int) (w : World) (h0 : Sl w (.slice p0 x0.length c0) x0) (h1 : Sl w (.slice p1 x1.length c1) x1) (hs0 : x0.length ≤ 1048576) (hs1 : x1.length ≤ 1048576) :
    Calls Try.prog 13 #[.slice p0 x0.length c0, .slice p1 x1.length c1] w fun e w' => e = .returned (.bool true) ∧ Below w.heap.size w w' := by
  have H0 := Lib.hid h0
  clear h0
  have H1 := Lib.hid h1
  clear h1
  have hB := Below.refl w.heap.size w
  have hl0 := Lib.hid (alternateStreams_len0 x0 x1)
  go_enter Try.func13, Try.ntmps13
  go_wp2_with fail
  refine (toInt_any _ x0 _ (H0.out.below hB) hs0).mono ?_
  rintro e w1 ⟨t0, rfl, o_t0, hb1⟩
  replace o_t0 := o_t0.mono hB.size
  replace hB := hB.trans (hb1.mono hB.size)
  clear hb1
  go_wp2_with fail
  refine (toInt_any _ x1 _ (H1.out.below hB) hs1).mono ?_
  have q_t0 := o_t0
  rintro e w2 ⟨t1, rfl, o_t1, hb2⟩
  replace o_t0 := o_t0.below hb2
  have ap_t0_t1 := Apart.of_lt q_t0 o_t1 (Nat.le_refl _)
  clear q_t0
  replace o_t1 := o_t1.mono hB.size
  replace hB := hB.trans (hb2.mono hB.size)
  clear hb2
  go_wp2_with fail
  refine (salt_any _ x0 _ x1 _ o_t0.sl o_t1.sl).mono ?_
  have q_t0 := o_t0
  have q_t1 := o_t1
  rintro e w3 ⟨r0, rfl, o_r0, hb3⟩
  replace o_t0 := o_t0.below hb3
  replace o_t1 := o_t1.below hb3
  have ap_t0_r0 := Apart.of_lt q_t0 o_r0 (Nat.le_refl _)
  have ap_t1_r0 := Apart.of_lt q_t1 o_r0 (Nat.le_refl _)
  clear q_t0
  clear q_t1
  replace o_r0 := o_r0.mono hB.size
  replace hB := hB.trans (hb3.mono hB.size)
  clear hb3
  clear o_t0
  clear o_t1
  go_wp2_with fail
  refine (toInt_any _ x0 _ (H0.out.below hB) hs0).mono ?_
  have q_r0 := o_r0
  rintro e w4 ⟨y0, rfl, o_y0, hb4⟩
  replace o_r0 := o_r0.below hb4
  have ap_r0_y0 := Apart.of_lt q_r0 o_y0 (Nat.le_refl _)
  clear q_r0
  replace o_y0 := o_y0.mono hB.size
  replace hB := hB.trans (hb4.mono hB.size)
  clear hb4
  go_wp2_with fail
  refine (toInt_any _ x1 _ (H1.out.below hB) hs1).mono ?_
  have q_r0 := o_r0
  have q_y0 := o_y0
  rintro e w5 ⟨y1, rfl, o_y1, hb5⟩
  replace o_r0 := o_r0.below hb5
  replace o_y0 := o_y0.below hb5
  have ap_r0_y1 := Apart.of_lt q_r0 o_y1 (Nat.le_refl _)
  have ap_y0_y1 := Apart.of_lt q_y0 o_y1 (Nat.le_refl _)
  clear q_r0
  clear q_y0
  replace o_y1 := o_y1.mono hB.size
  replace hB := hB.trans (hb5.mono hB.size)
  clear hb5
  go_wp2_with fail
  refine (ialt_any _ x0 _ x1 _ o_y0.sl o_y1.sl).mono ?_
  have q_r0 := o_r0
  have q_y0 := o_y0
  have q_y1 := o_y1
  rintro e w6 ⟨g0, rfl, o_g0, hb6⟩
  replace o_r0 := o_r0.below hb6
  replace o_y0 := o_y0.below hb6
  replace o_y1 := o_y1.below hb6
  have ap_r0_g0 := Apart.of_lt q_r0 o_g0 (Nat.le_refl _)
  have ap_y0_g0 := Apart.of_lt q_y0 o_g0 (Nat.le_refl _)
  have ap_y1_g0 := Apart.of_lt q_y1 o_g0 (Nat.le_refl _)
  clear q_r0
  clear q_y0
  clear q_y1
  replace o_g0 := o_g0.mono hB.size
  replace hB := hB.trans (hb6.mono hB.size)
  clear hb6
  go_wp2_with fail
  refine (eqS_ok _ _ _ _ o_g0.sl o_r0.sl).mono ?_
  rintro e w7 ⟨rfl, hb7⟩
  replace o_r0 := o_r0.below hb7
  replace o_y0 := o_y0.below hb7
  replace o_y1 := o_y1.below hb7
  replace o_g0 := o_g0.below hb7
  replace hB := hB.trans (hb7.mono hB.size)
  clear hb7
  go_wp2_with fail
  refine (toInt_any _ x0 _ (H0.out.below hB) hs0).mono ?_
  have q_r0 := o_r0
  have q_y0 := o_y0
  have q_y1 := o_y1
  have q_g0 := o_g0
  rintro e w8 ⟨z0, rfl, o_z0, hb8⟩
  replace o_r0 := o_r0.below hb8
  replace o_y0 := o_y0.below hb8
  replace o_y1 := o_y1.below hb8
  replace o_g0 := o_g0.below hb8
  have ap_r0_z0 := Apart.of_lt q_r0 o_z0 (Nat.le_refl _)
  have ap_y0_z0 := Apart.of_lt q_y0 o_z0 (Nat.le_refl _)
  have ap_y1_z0 := Apart.of_lt q_y1 o_z0 (Nat.le_refl _)
  have ap_g0_z0 := Apart.of_lt q_g0 o_z0 (Nat.le_refl _)
  clear q_r0
  clear q_y0
  clear q_y1
  clear q_g0
  replace o_z0 := o_z0.mono hB.size
  replace hB := hB.trans (hb8.mono hB.size)
  clear hb8
  go_wp2_with fail
  refine (eqS_ok _ _ _ _ o_y0.sl o_z0.sl).mono ?_
  rintro e w9 ⟨rfl, hb9⟩
  replace o_r0 := o_r0.below hb9
  replace o_y0 := o_y0.below hb9
  replace o_y1 := o_y1.below hb9
  replace o_g0 := o_g0.below hb9
  replace o_z0 := o_z0.below hb9
  replace hB := hB.trans (hb9.mono hB.size)
  clear hb9
  clear o_z0
  go_wp2_with fail
  refine (toInt_any _ x1 _ (H1.out.below hB) hs1).mono ?_
  have q_r0 := o_r0
  have q_y0 := o_y0
  have q_y1 := o_y1
  have q_g0 := o_g0
  rintro e w10 ⟨z1, rfl, o_z1, hb10⟩
  replace o_r0 := o_r0.below hb10
  replace o_y0 := o_y0.below hb10
  replace o_y1 := o_y1.below hb10
  replace o_g0 := o_g0.below hb10
  have ap_r0_z1 := Apart.of_lt q_r0 o_z1 (Nat.le_refl _)
  have ap_y0_z1 := Apart.of_lt q_y0 o_z1 (Nat.le_refl _)
  have ap_y1_z1 := Apart.of_lt q_y1 o_z1 (Nat.le_refl _)
  have ap_g0_z1 := Apart.of_lt q_g0 o_z1 (Nat.le_refl _)
  clear q_r0
  clear q_y0
  clear q_y1
  clear q_g0
  replace o_z1 := o_z1.mono hB.size
  replace hB := hB.trans (hb10.mono hB.size)
  clear hb10
  go_wp2_with fail
  refine (eqS_ok _ _ _ _ o_y1.sl o_z1.sl).mono ?_
  rintro e w11 ⟨rfl, hb11⟩
  replace o_r0 := o_r0.below hb11
  replace o_y0 := o_y0.below hb11
  replace o_y1 := o_y1.below hb11
  replace o_g0 := o_g0.below hb11
  replace o_z1 := o_z1.below hb11
  replace hB := hB.trans (hb11.mono hB.size)
  clear hb11
  clear o_z1
  go_wp2_with fail
  refine (mark_any _ _ (x0) _ _ o_y0 (by omega) (by have := hs0; omega) (by have := hs0; omega)).mono ?_
  rintro e w12 ⟨rfl, m_y0, hg12⟩
  replace o_r0 := o_r0.kept hg12 ap_r0_y0
  replace o_y1 := o_y1.kept hg12 ap_y0_y1.symm
  replace o_g0 := o_g0.kept hg12 ap_y0_g0.symm
  replace hB := hB.grown hg12 hB.size (fun k e => (Own.lt o_y0 k e).1)
  clear hg12 o_y0
  have o_y0 := m_y0
  clear m_y0
  go_wp2_with fail
  refine (mark_any _ _ (x1) _ _ o_y1 (by omega) (by have := hs1; omega) (by have := hs1; omega)).mono ?_
  rintro e w13 ⟨rfl, m_y1, hg13⟩
  replace o_r0 := o_r0.kept hg13 ap_r0_y1
  replace o_y0 := o_y0.kept hg13 ap_y0_y1
  replace o_g0 := o_g0.kept hg13 ap_y1_g0.symm
  replace hB := hB.grown hg13 hB.size (fun k e => (Own.lt o_y1 k e).1)
  clear hg13 o_y1
  have o_y1 := m_y1
  clear m_y1
  go_wp2_with fail
  refine (eqS_ok _ _ _ _ o_g0.sl o_r0.sl).mono ?_
  rintro e w14 ⟨rfl, hb14⟩
  replace o_r0 := o_r0.below hb14
  replace o_y0 := o_y0.below hb14
  replace o_y1 := o_y1.below hb14
  replace o_g0 := o_g0.below hb14
  replace hB := hB.trans (hb14.mono hB.size)
  clear hb14
  clear o_y0
  clear o_y1
  go_wp2_with fail
  refine (mark_any _ _ (alternateStreamsR0 x0 x1) _ _ o_g0 (by omega) (by have := hl0.out; omega) (by have := hl0.out; omega)).mono ?_
  rintro e w15 ⟨rfl, m_g0, hg15⟩
  replace o_r0 := o_r0.kept hg15 ap_r0_g0
  replace hB := hB.grown hg15 hB.size (fun k e => (Own.lt o_g0 k e).1)
  clear hg15 o_g0
  have o_g0 := m_g0
  clear m_g0
  go_wp2_with fail
  refine (held_any _ (1) (alternateStreamsR0 x0 x1).length _ o_g0.sl (by omega) (by have := hl0.out; omega) (by have := hl0.out; omega)).mono ?_
  rintro e w' ⟨rfl, rfl⟩
  go_wp2_with fail
  refine (toInt_any _ x0 _ (H0.out.below hB) hs0).mono ?_
  have q_r0 := o_r0
  have q_g0 := o_g0
  rintro e w17 ⟨u0, rfl, o_u0, hb17⟩
  replace o_r0 := o_r0.below hb17
  replace o_g0 := o_g0.below hb17
  have ap_r0_u0 := Apart.of_lt q_r0 o_u0 (Nat.le_refl _)
  have ap_g0_u0 := Apart.of_lt q_g0 o_u0 (Nat.le_refl _)
  clear q_r0
  clear q_g0
  replace o_u0 := o_u0.mono hB.size
  replace hB := hB.trans (hb17.mono hB.size)
  clear hb17
  go_wp2_with fail
  refine (toInt_any _ x1 _ (H1.out.below hB) hs1).mono ?_
  have q_r0 := o_r0
  have q_g0 := o_g0
  have q_u0 := o_u0
  rintro e w18 ⟨u1, rfl, o_u1, hb18⟩
  replace o_r0 := o_r0.below hb18
  replace o_g0 := o_g0.below hb18
  replace o_u0 := o_u0.below hb18
  have ap_r0_u1 := Apart.of_lt q_r0 o_u1 (Nat.le_refl _)
  have ap_g0_u1 := Apart.of_lt q_g0 o_u1 (Nat.le_refl _)
  have ap_u0_u1 := Apart.of_lt q_u0 o_u1 (Nat.le_refl _)
  clear q_r0
  clear q_g0
  clear q_u0
  replace o_u1 := o_u1.mono hB.size
  replace hB := hB.trans (hb18.mono hB.size)
  clear hb18
  go_wp2_with fail
  refine (ialt_any _ x0 _ x1 _ o_u0.sl o_u1.sl).mono ?_
  have q_r0 := o_r0
  have q_g0 := o_g0
  have q_u0 := o_u0
  have q_u1 := o_u1
  rintro e w19 ⟨k0, rfl, o_k0, hb19⟩
  replace o_r0 := o_r0.below hb19
  replace o_g0 := o_g0.below hb19
  replace o_u0 := o_u0.below hb19
  replace o_u1 := o_u1.below hb19
  have ap_r0_k0 := Apart.of_lt q_r0 o_k0 (Nat.le_refl _)
  have ap_g0_k0 := Apart.of_lt q_g0 o_k0 (Nat.le_refl _)
  have ap_u0_k0 := Apart.of_lt q_u0 o_k0 (Nat.le_refl _)
  have ap_u1_k0 := Apart.of_lt q_u1 o_k0 (Nat.le_refl _)
  clear q_r0
  clear q_g0
  clear q_u0
  clear q_u1
  replace o_k0 := o_k0.mono hB.size
  replace hB := hB.trans (hb19.mono hB.size)
  clear hb19
  clear o_u0
  clear o_u1
  go_wp2_with fail
  refine (eqS_ok _ _ _ _ o_k0.sl o_r0.sl).mono ?_
  rintro e w20 ⟨rfl, hb20⟩
  replace o_r0 := o_r0.below hb20
  replace o_g0 := o_g0.below hb20
  replace o_k0 := o_k0.below hb20
  replace hB := hB.trans (hb20.mono hB.size)
  clear hb20
  go_wp2_with fail
  refine (held_any _ (1) (alternateStreamsR0 x0 x1).length _ o_g0.sl (by omega) (by have := hl0.out; omega) (by have := hl0.out; omega)).mono ?_
  rintro e w' ⟨rfl, rfl⟩
  go_wp2_with fail
  go_ret
  exact ⟨rfl, hB⟩

set_option maxHeartbeats 400000 in
theorem fnExactAlternateStreams_walk {a0 : Value} {x0 : List Int} {a1 : Value} {x1 : List Int} (w : World) (h0 : Sl w a0 x0) (h1 : Sl w a1 x1) :
    Calls Try.prog 13 #[a0, a1] w fun e w' => e = .returned (.bool true) ∧ Below w.heap.size w w' := by
  obtain ⟨p0, c0, rfl, r0⟩ := h0
  have H0 := Lib.hid (show Sl w _ x0 from ⟨p0, c0, rfl, r0⟩)
  have b0 : x0.length ≤ 9223372036854775807 := by have := r0.1; have := r0.2.1; unfold maxLen at this; omega
  clear r0
  obtain ⟨p1, c1, rfl, r1⟩ := h1
  have H1 := Lib.hid (show Sl w _ x1 from ⟨p1, c1, rfl, r1⟩)
  have b1 : x1.length ≤ 9223372036854775807 := by have := r1.1; have := r1.2.1; unfold maxLen at this; omega
  clear r1
  by_cases hs0 : x0.length ≤ 1048576
  · by_cases hs1 : x1.length ≤ 1048576
    · exact fnExactAlternateStreams_core p0 c0 x0 p1 c1 x1 _ H0.out H1.out hs0 hs1
    · go_enter Try.func13, Try.ntmps13
      go_wp2_with fail
      go_ret
      exact ⟨rfl, Below.refl _ _⟩
  · go_enter Try.func13, Try.ntmps13
    go_wp2_with fail
    go_ret
    exact ⟨rfl, Below.refl _ _⟩

end Go.Proofs.Ythlpgpgfdfnofaa
