/-
  The walk of the law FnExactAreBelow: it answers true and changes nothing that was there.
-/
import Derived.Test.YtfjmebggghkehaaBelowH
import Derived.Test.YtfjmebggghkehaaNetEq
import Derived.Test.YtfjmebggghkehaaNetSz
import Derived.Test.YtfjmebggghkehaaSSSz
import Derived.Test.YtfjmebggghkehaaSSTo
import Derived.Deep.Cut
import Derived.Deep.RegionHeld3
namespace Go.Proofs.Ytfjmebggghkehaa
open Go.RowKit

set_option maxRecDepth 100000 in
set_option maxHeartbeats 8000000 in
theorem fnExactAreBelow_walk (v0 : Value) (x0 : Net) (v1 : Value) (y0 : List (List Int)) (v2 : Value) (y1 : List (List Int)) (w : World) (h0 : NetV w v0 x0) (k0 : SlR w v1 y0) (k1 : SlR w v2 y1) :
    Calls Try.prog 14 #[v0, v1, v2] w fun e w' => e = .returned (.bool true) ∧ Below w.heap.size w w' := by
  have H0 := Lib.hid h0
  have HWF : ∀ l ∈ x0.links, wfL l := by obtain ⟨_, _, _, _, hl⟩ := h0; exact hl.wf
  have HW := Lib.hid HWF
  obtain ⟨cp, cl, rfl, hp, hl⟩ := h0
  obtain ⟨pa, pcap, rfl⟩ := hp.shape
  obtain ⟨la, lcap, rfl⟩ := hl.shape
  obtain ⟨pn, hpn⟩ : ∃ z, z = x0.progs.length := ⟨_, rfl⟩
  obtain ⟨ln, hln⟩ : ∃ z, z = x0.links.length := ⟨_, rfl⟩
  rw [← hpn, ← hln] at H0 ⊢
  clear hp hl hpn hln HWF
  have K0 := Lib.hid k0
  clear k0
  have K1 := Lib.hid k1
  clear k1
  obtain ⟨r0, hr0⟩ : ∃ z, z = areBelowR0 x0 y0 y1 := ⟨_, rfl⟩
  have CS := Lib.hid (fun (v : Value) (u0 u1 : Value) (W : World) (hv : NetV W v x0) (hu0 : SlR W u0 y0) (hu1 : SlR W u1 y1) => (show Calls Try.prog 69 #[v, u0, u1] W fun e w' => e = .returned (.bool r0) ∧ Below W.heap.size W w' by have q := sbelow_any v u0 u1 x0 y0 y1 W hv hu0 hu1; rw [← hr0] at q; exact q))
  have CI := Lib.hid (fun (v : Value) (u0 u1 : Value) (W : World) (hv : NetV W v x0) (hu0 : SlR W u0 y0) (hu1 : SlR W u1 y1) => (show Calls Try.prog 70 #[v, u0, u1] W fun e w' => e = .returned (.bool r0) ∧ Below W.heap.size W w' by have q := ibelow_any v u0 u1 x0 y0 y1 W hv hu0 hu1; rw [← hr0] at q; exact q))
  clear hr0
  have hb := Lib.hid ((Below.refl w.heap.size w).al (.cells #[.slice pa pn pcap, .slice la ln lcap] 86))
  have hH := Lib.hid (hp1 w (.cells #[.slice pa pn pcap, .slice la ln lcap] 86))
  have CZ := Lib.hid (szNet_any _ x0 1048576 _ (H0.out.below hb.out) ⟨by omega, by omega⟩)
  obtain ⟨sn, hsn⟩ : ∃ z, z = szN x0 := ⟨_, rfl⟩
  rw [← hsn] at CZ
  by_cases z0 : (sn : Int) ≤ 1048576
  case neg =>
    rw [if_neg z0] at CZ
    clear hsn z0
    go_enter Try.func14, Try.ntmps14
    go_wp2_with (go_at_call 60; with_reducible refine CZ.out.mono ?_; rintro e w2 ⟨rfl, hb1⟩; have HB1 := Lib.hid (hb.out.trans (hb1.mono hb.out.size)); clear hb1)
    go_ret
    exact ⟨rfl, HB1.out⟩
  rw [if_pos z0] at CZ
  have CT := Lib.hid (fun (W : World) (hW : Below w.heap.size w W) => toNet_any _ x0 W (H0.out.below hW) (by rw [← hsn]; omega))
  obtain ⟨l0, hl0⟩ : ∃ z : Int, z = 1048576 - (sn : Int) := ⟨_, rfl⟩
  rw [← hl0] at CZ
  have d0 : decide (l0 < 0) = false := decide_eq_false (by omega)
  have lb0 : 0 ≤ l0 ∧ l0 ≤ 1048576 := by omega
  clear hsn z0 hl0
  obtain ⟨s0, hs0⟩ : ∃ z, z = sumR y0 := ⟨_, rfl⟩
  have CY0 := Lib.hid (fun (W : World) (hW : Below w.heap.size w W) => szSS_any _ y0 l0 W (K0.out.below hW) lb0)
  rw [← hs0] at CY0
  by_cases z1 : (s0 : Int) ≤ l0
  case neg =>
    rw [if_neg z1] at CY0
    clear hs0 z1 lb0
    go_enter Try.func14, Try.ntmps14
    go_wp2_with (first | (go_at_call 38; with_reducible refine (CY0.out _ HBz.out).mono ?_; rintro e w30 ⟨rfl, hb1⟩; have HBz0 := Lib.hid (HBz.out.trans (hb1.mono HBz.out.size)); clear hb1) | (go_at_call 60; with_reducible refine CZ.out.mono ?_; rintro e w2 ⟨rfl, hb1⟩; have HBz := Lib.hid (hb.out.trans (hb1.mono hb.out.size)); clear hb1))
    go_ret
    exact ⟨rfl, HBz0.out⟩
  rw [if_pos z1] at CY0
  have CS0 := Lib.hid (fun (W : World) (hW : Below w.heap.size w W) => toSS_any _ y0 W (K0.out.below hW) (by unfold sumR at hs0; omega) (fun xs hx => by have := len_sumR hx; omega))
  obtain ⟨l1, hl1⟩ : ∃ z : Int, z = l0 - (s0 : Int) := ⟨_, rfl⟩
  rw [← hl1] at CY0
  have d1 : decide (l1 < 0) = false := decide_eq_false (by omega)
  have lb1 : 0 ≤ l1 ∧ l1 ≤ 1048576 := by omega
  clear hs0 z1 hl1 lb0
  obtain ⟨s1, hs1⟩ : ∃ z, z = sumR y1 := ⟨_, rfl⟩
  have CY1 := Lib.hid (fun (W : World) (hW : Below w.heap.size w W) => szSS_any _ y1 l1 W (K1.out.below hW) lb1)
  rw [← hs1] at CY1
  by_cases z2 : (s1 : Int) ≤ l1
  case neg =>
    rw [if_neg z2] at CY1
    clear hs1 z2 lb1
    go_enter Try.func14, Try.ntmps14
    go_wp2_with (first | (go_at_call 38; with_reducible refine (CY1.out _ HBz0.out).mono ?_; rintro e w31 ⟨rfl, hb1⟩; have HBz1 := Lib.hid (HBz0.out.trans (hb1.mono HBz0.out.size)); clear hb1) | (go_at_call 38; with_reducible refine (CY0.out _ HBz.out).mono ?_; rintro e w30 ⟨rfl, hb1⟩; have HBz0 := Lib.hid (HBz.out.trans (hb1.mono HBz.out.size)); clear hb1) | (go_at_call 60; with_reducible refine CZ.out.mono ?_; rintro e w2 ⟨rfl, hb1⟩; have HBz := Lib.hid (hb.out.trans (hb1.mono hb.out.size)); clear hb1))
    go_ret
    exact ⟨rfl, HBz1.out⟩
  rw [if_pos z2] at CY1
  have CS1 := Lib.hid (fun (W : World) (hW : Below w.heap.size w W) => toSS_any _ y1 W (K1.out.below hW) (by unfold sumR at hs1; omega) (fun xs hx => by have := len_sumR hx; omega))
  obtain ⟨l2, hl2⟩ : ∃ z : Int, z = l1 - (s1 : Int) := ⟨_, rfl⟩
  rw [← hl2] at CY1
  have d2 : decide (l2 < 0) = false := decide_eq_false (by omega)
  have lb2 : 0 ≤ l2 ∧ l2 ≤ 1048576 := by omega
  clear hs1 z2 hl2 lb1
  clear lb2
  obtain ⟨n0, hn0⟩ : ∃ z, z = y0.length := ⟨_, rfl⟩
  have HN0 := Lib.hid hn0
  rw [← hn0] at CS0
  clear hn0
  obtain ⟨n1, hn1⟩ : ∃ z, z = y1.length := ⟨_, rfl⟩
  have HN1 := Lib.hid hn1
  rw [← hn1] at CS1
  clear hn1
  go_enter Try.func14, Try.ntmps14
  go_wp2_with fail
  go_at_call 60
  with_reducible refine CZ.out.mono ?_
  rintro e w2 ⟨rfl, hb1⟩
  have HB2 := Lib.hid (hb.out.trans (hb1.mono hb.out.size))
  have G2 := Lib.hid (blk_in hH.out hb1)
  obtain ⟨c0, c1⟩ := cells2 G2.out
  have cl := lt_of G2.out
  clear hb1
  go_wp2_with fail
  go_at_call 38
  with_reducible refine (CY0.out _ HB2.out).mono ?_
  rintro e w3 ⟨rfl, hb1⟩
  have HB3 := Lib.hid (HB2.out.trans (hb1.mono HB2.out.size))
  have G3 := Lib.hid (blk_in G2.out hb1)
  clear hb1 c0 c1 cl
  obtain ⟨c0, c1⟩ := cells2 G3.out
  have cl := lt_of G3.out
  go_wp2_with fail
  go_at_call 38
  with_reducible refine (CY1.out _ HB3.out).mono ?_
  rintro e w4 ⟨rfl, hb1⟩
  have HB4 := Lib.hid (HB3.out.trans (hb1.mono HB3.out.size))
  have G4 := Lib.hid (blk_in G3.out hb1)
  clear hb1 c0 c1 cl
  obtain ⟨c0, c1⟩ := cells2 G4.out
  have cl := lt_of G4.out
  go_wp2_with fail
  go_at_call 62
  with_reducible refine (CT.out _ HB4.out).mono ?_
  rintro e w5 ⟨v3, rfl, ho1, hb1⟩
  have HB5 := Lib.hid (HB4.out.trans (hb1.mono HB4.out.size))
  have G5 := Lib.hid (blk_in G4.out hb1)
  have V3 := Lib.hid (ho1.v HW.out)
  clear ho1
  clear hb1 c0 c1 cl
  obtain ⟨c0, c1⟩ := cells2 G5.out
  have cl := lt_of G5.out
  go_wp2_with fail
  go_at_call 41
  with_reducible refine (CS0.out _ HB5.out).mono ?_
  rintro e w6 ⟨rfl, ho1, _, hb1⟩
  have HB6 := Lib.hid (HB5.out.trans (hb1.mono HB5.out.size))
  have G6 := Lib.hid (blk_in G5.out hb1)
  replace V3 := Lib.hid (V3.out.below hb1)
  have Y0 := Lib.hid (show SlR w6 (.slice (some ⟨w5.heap.size, 0, none⟩) n0 n0) y0 from ho1.done HN0.out.symm)
  clear ho1
  clear hb1 c0 c1 cl
  obtain ⟨c0, c1⟩ := cells2 G6.out
  have cl := lt_of G6.out
  go_wp2_with fail
  go_at_call 41
  with_reducible refine (CS1.out _ HB6.out).mono ?_
  rintro e w7 ⟨rfl, ho1, _, hb1⟩
  have HB7 := Lib.hid (HB6.out.trans (hb1.mono HB6.out.size))
  have G7 := Lib.hid (blk_in G6.out hb1)
  replace V3 := Lib.hid (V3.out.below hb1)
  replace Y0 := Lib.hid (Y0.out.below hb1)
  have Y1 := Lib.hid (show SlR w7 (.slice (some ⟨w6.heap.size, 0, none⟩) n1 n1) y1 from ho1.done HN1.out.symm)
  clear ho1
  clear hb1 c0 c1 cl
  obtain ⟨c0, c1⟩ := cells2 G7.out
  have cl := lt_of G7.out
  go_wp2_with fail
  go_at_call 69
  refine (CS.out _ _ _ _ V3.out Y0.out Y1.out).mono ?_
  rintro e w8 ⟨rfl, hb1⟩
  have HB8 := Lib.hid (HB7.out.trans (hb1.mono HB7.out.size))
  have G8 := Lib.hid (blk_in G7.out hb1)
  clear hb1 c0 c1 cl
  obtain ⟨c0, c1⟩ := cells2 G8.out
  have cl := lt_of G8.out
  clear V3 Y0 Y1
  go_wp2_with fail
  go_at_call 62
  with_reducible refine (CT.out _ HB8.out).mono ?_
  rintro e w9 ⟨v5, rfl, ho1, hb1⟩
  have HB9 := Lib.hid (HB8.out.trans (hb1.mono HB8.out.size))
  have G9 := Lib.hid (blk_in G8.out hb1)
  have V5 := Lib.hid (ho1.v HW.out)
  clear hb1 c0 c1 cl
  obtain ⟨c0, c1⟩ := cells2 G9.out
  have cl := lt_of G9.out
  obtain ⟨ga, gb, rfl, _, _, _, _⟩ := ho1
  obtain ⟨m1, hm1⟩ : ∃ z, z = x0.progs.length := ⟨_, rfl⟩
  obtain ⟨m2, hm2⟩ : ∃ z, z = x0.links.length := ⟨_, rfl⟩
  rw [← hm1, ← hm2] at V5 ⊢
  clear hm1 hm2
  go_wp2_with fail
  go_at_call 41
  have BX := Lib.hid (hp1 w9 (.cells #[.slice (some ⟨ga, 0, none⟩) m1 m1, .slice (some ⟨gb, 0, none⟩) m2 m2] 52))
  have HBx := Lib.hid (HB9.out.al (.cells #[.slice (some ⟨ga, 0, none⟩) m1 m1, .slice (some ⟨gb, 0, none⟩) m2 m2] 52))
  replace V5 := Lib.hid (V5.out.below ((Below.refl w9.heap.size w9).al (.cells #[.slice (some ⟨ga, 0, none⟩) m1 m1, .slice (some ⟨gb, 0, none⟩) m2 m2] 52)))
  have Gx := Lib.hid (blk_in G9.out ((Below.refl w9.heap.size w9).al (.cells #[.slice (some ⟨ga, 0, none⟩) m1 m1, .slice (some ⟨gb, 0, none⟩) m2 m2] 52)))
  with_reducible refine (CS0.out _ HBx.out).mono ?_
  rintro e w10 ⟨rfl, ho1, _, hb1⟩
  have HB10 := Lib.hid (HBx.out.trans (hb1.mono HBx.out.size))
  have G10 := Lib.hid (blk_in Gx.out hb1)
  have B10 := Lib.hid (blk_in BX.out hb1)
  replace V5 := Lib.hid (V5.out.below hb1)
  have Y0 := Lib.hid (ho1.done HN0.out.symm)
  obtain ⟨g0, hg0⟩ : ∃ z, z = (w9.alloc (.cells #[.slice (some ⟨ga, 0, none⟩) m1 m1, .slice (some ⟨gb, 0, none⟩) m2 m2] 52)).heap.size := ⟨_, rfl⟩
  rw [← hg0] at Y0 ⊢
  clear ho1 hb1 c0 c1 cl hg0
  obtain ⟨c0, c1⟩ := cells2 G10.out
  have cl := lt_of G10.out
  obtain ⟨b0, b1⟩ := cells2 B10.out
  have bl := lt_of B10.out
  go_wp2_with fail
  go_at_call 41
  with_reducible refine (CS1.out _ HB10.out).mono ?_
  rintro e w11 ⟨rfl, ho1, _, hb1⟩
  have HB11 := Lib.hid (HB10.out.trans (hb1.mono HB10.out.size))
  have G11 := Lib.hid (blk_in G10.out hb1)
  have B11 := Lib.hid (blk_in B10.out hb1)
  replace V5 := Lib.hid (V5.out.below hb1)
  replace Y0 := Lib.hid (Y0.out.below hb1)
  have Y1 := Lib.hid (ho1.done HN1.out.symm)
  obtain ⟨g1, hg1⟩ : ∃ z, z = w10.heap.size := ⟨_, rfl⟩
  rw [← hg1] at Y1 ⊢
  clear ho1 hg1
  clear hb1 c0 c1 cl b0 b1 bl
  obtain ⟨c0, c1⟩ := cells2 G11.out
  have cl := lt_of G11.out
  obtain ⟨b0, b1⟩ := cells2 B11.out
  have bl := lt_of B11.out
  go_wp2_with fail
  go_at_call 70
  refine (CI.out _ _ _ _ V5.out Y0.out Y1.out).mono ?_
  rintro e w12 ⟨rfl, hb1⟩
  have HB12 := Lib.hid (HB11.out.trans (hb1.mono HB11.out.size))
  have G12 := Lib.hid (blk_in G11.out hb1)
  have B12 := Lib.hid (blk_in B11.out hb1)
  replace V5 := Lib.hid (V5.out.below hb1)
  replace Y0 := Lib.hid (Y0.out.below hb1)
  replace Y1 := Lib.hid (Y1.out.below hb1)
  clear hb1 c0 c1 cl b0 b1 bl
  obtain ⟨c0, c1⟩ := cells2 G12.out
  have cl := lt_of G12.out
  obtain ⟨b0, b1⟩ := cells2 B12.out
  have bl := lt_of B12.out
  go_upto_region 18 with fail
  have HB6 := HB12
  have G6 := G12
  have B6 := B12
  go_region_held3 (fun w' => w'.cell? ⟨w9.heap.size, 0, none⟩ = some (.slice (some ⟨ga, 0, none⟩) m1 m1) ∧ w'.cell? ⟨w9.heap.size, 1, none⟩ = some (.slice (some ⟨gb, 0, none⟩) m2 m2) ∧ w'.cell? ⟨w.heap.size, 0, none⟩ = some (.slice pa pn pcap) ∧ w'.cell? ⟨w.heap.size, 1, none⟩ = some (.slice la ln lcap)) (go_keep)
    (first | (go_at_call 62; refine (CT.out _ (by first | with_reducible exact HB6.out | with_reducible exact HB6.out.drew)).mono ?_; rintro e W7 ⟨v7, rfl, ho7, hb7⟩; have hc7 := (show Below w12.heap.size w12 W7 by first | with_reducible exact hb7 | with_reducible exact cr_d hb7); have HB7 := Lib.hid (HB6.out.trans (hc7.mono HB6.out.size)); have V7 := Lib.hid (ho7.v HW.out); have V67 := Lib.hid (V5.out.below hc7); have Y07 := Lib.hid (Y0.out.below hc7); have Y17 := Lib.hid (Y1.out.below hc7); have q7 := blk_in G6.out hc7; obtain ⟨x0', x1'⟩ := cells2 q7; have p7 := blk_in B6.out hc7; obtain ⟨y0', y1'⟩ := cells2 p7; have Q7 := Lib.hid q7; have P7 := Lib.hid p7; clear ho7 hb7 hc7 q7 p7) | (go_at_call 55; refine (eqNet_ok _ _ x0 _ V67.out V7.out).mono ?_; rintro e W8 ⟨rfl, hb8⟩; have HB8 := Lib.hid (HB7.out.trans (hb8.mono HB7.out.size)); have Y08 := Lib.hid (Y07.out.below hb8); have Y18 := Lib.hid (Y17.out.below hb8); have q8 := blk_in Q7.out hb8; obtain ⟨x0', x1'⟩ := cells2 q8; have p8 := blk_in P7.out hb8; obtain ⟨y0', y1'⟩ := cells2 p8; clear hb8 q8 p8))
  all_goals
    go_wp2_with fail
    go_at_call 41
    with_reducible refine (CS0.out _ HB8.out).mono ?_
    rintro e WA0 ⟨rfl, ho1, _, hb1⟩
    have YA00 := Lib.hid (Y08.out.below hb1)
    have YA01 := Lib.hid (Y18.out.below hb1)
    have HBA0 := Lib.hid (HB8.out.trans (hb1.mono HB8.out.size))
    have Z0 := Lib.hid (ho1.done HN0.out.symm)
    clear ho1 hb1
    go_wp2_with fail
    go_at_call 42
    refine (eqSS_ok _ _ y0 _ YA00.out Z0.out).mono ?_
    rintro e WB0 ⟨rfl, hb1⟩
    have HBB0 := Lib.hid (HBA0.out.trans (hb1.mono HBA0.out.size))
    have Y1_0 := Lib.hid (YA01.out.below hb1)
    clear hb1
    go_wp2_with fail
    go_at_call 41
    with_reducible refine (CS1.out _ HBB0.out).mono ?_
    rintro e WA1 ⟨rfl, ho1, _, hb1⟩
    have YA11 := Lib.hid (Y1_0.out.below hb1)
    have HBA1 := Lib.hid (HBB0.out.trans (hb1.mono HBB0.out.size))
    have Z1 := Lib.hid (ho1.done HN1.out.symm)
    clear ho1 hb1
    go_wp2_with fail
    go_at_call 42
    refine (eqSS_ok _ _ y1 _ YA11.out Z1.out).mono ?_
    rintro e WB1 ⟨rfl, hb1⟩
    have HBB1 := Lib.hid (HBA1.out.trans (hb1.mono HBA1.out.size))
    clear hb1
    go_wp2_with fail
    go_ret
    exact ⟨rfl, HBB1.out⟩
end Go.Proofs.Ytfjmebggghkehaa
