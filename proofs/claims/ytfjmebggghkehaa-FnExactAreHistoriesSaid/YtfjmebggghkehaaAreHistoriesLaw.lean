/-
  The walk of the law FnExactAreHistories: it answers true and changes nothing that was there.
-/
import Derived.Test.YtfjmebggghkehaaHist
import Derived.Test.YtfjmebggghkehaaNetEq
import Derived.Test.YtfjmebggghkehaaNetSz
import Derived.Test.YtfjmebggghkehaaSSSz
import Derived.Test.YtfjmebggghkehaaSSTo
import Derived.Deep.Cut
import Derived.Deep.RegionHeld3
namespace Go.Proofs.Ytfjmebggghkehaa
open Go.RowKit

set_option maxRecDepth 100000 in
set_option maxHeartbeats 8000000 in
theorem fnExactAreHistories_walk (v0 : Value) (x0 : Net) (v1 : Value) (y0 : List (List Int)) (w : World) (h0 : NetV w v0 x0) (k0 : SlR w v1 y0) :
    Calls Try.prog 13 #[v0, v1] w fun e w' => e = .returned (.bool true) ∧ Below w.heap.size w w' := by
  have H0 := Lib.hid h0
  have HWF : ∀ l ∈ x0.links, wfL l := by obtain ⟨_, _, _, _, hl⟩ := h0; exact hl.wf
  have HW := Lib.hid HWF
  obtain ⟨cp, cl, rfl, hp, hl⟩ := h0
  obtain ⟨pa, pcap, rfl⟩ := hp.shape
  obtain ⟨la, lcap, rfl⟩ := hl.shape
  obtain ⟨pn, hpn⟩ : ∃ z, z = x0.progs.length := ⟨_, rfl⟩
  obtain ⟨ln, hln⟩ : ∃ z, z = x0.links.length := ⟨_, rfl⟩
  rw [← hpn, ← hln] at H0 ⊢
  clear hp hl hpn hln HWF
  have K0 := Lib.hid k0
  clear k0
  obtain ⟨r0, hr0⟩ : ∃ z, z = areHistoriesR0 x0 y0 := ⟨_, rfl⟩
  have CS := Lib.hid (fun (v : Value) (u0 : Value) (W : World) (hv : NetV W v x0) (hu0 : SlR W u0 y0) => (show Calls Try.prog 67 #[v, u0] W fun e w' => e = .returned (.bool r0) ∧ Below W.heap.size W w' by have q := shist_any v u0 x0 y0 W hv hu0; rw [← hr0] at q; exact q))
  have CI := Lib.hid (fun (v : Value) (u0 : Value) (W : World) (hv : NetV W v x0) (hu0 : SlR W u0 y0) => (show Calls Try.prog 68 #[v, u0] W fun e w' => e = .returned (.bool r0) ∧ Below W.heap.size W w' by have q := ihist_any v u0 x0 y0 W hv hu0; rw [← hr0] at q; exact q))
  clear hr0
  have hb := Lib.hid ((Below.refl w.heap.size w).al (.cells #[.slice pa pn pcap, .slice la ln lcap] 86))
  have hH := Lib.hid (hp1 w (.cells #[.slice pa pn pcap, .slice la ln lcap] 86))
  have CZ := Lib.hid (szNet_any _ x0 1048576 _ (H0.out.below hb.out) ⟨by omega, by omega⟩)
  obtain ⟨sn, hsn⟩ : ∃ z, z = szN x0 := ⟨_, rfl⟩
  rw [← hsn] at CZ
  by_cases z0 : (sn : Int) ≤ 1048576
  case neg =>
    rw [if_neg z0] at CZ
    clear hsn z0
    go_enter Try.func13, Try.ntmps13
    go_wp2_with (go_at_call 60; with_reducible refine CZ.out.mono ?_; rintro e w2 ⟨rfl, hb1⟩; have HB1 := Lib.hid (hb.out.trans (hb1.mono hb.out.size)); clear hb1)
    go_ret
    exact ⟨rfl, HB1.out⟩
  rw [if_pos z0] at CZ
  have CT := Lib.hid (fun (W : World) (hW : Below w.heap.size w W) => toNet_any _ x0 W (H0.out.below hW) (by rw [← hsn]; omega))
  obtain ⟨l0, hl0⟩ : ∃ z : Int, z = 1048576 - (sn : Int) := ⟨_, rfl⟩
  rw [← hl0] at CZ
  have d0 : decide (l0 < 0) = false := decide_eq_false (by omega)
  have lb0 : 0 ≤ l0 ∧ l0 ≤ 1048576 := by omega
  clear hsn z0 hl0
  obtain ⟨s0, hs0⟩ : ∃ z, z = sumR y0 := ⟨_, rfl⟩
  have CY0 := Lib.hid (fun (W : World) (hW : Below w.heap.size w W) => szSS_any _ y0 l0 W (K0.out.below hW) lb0)
  rw [← hs0] at CY0
  by_cases z1 : (s0 : Int) ≤ l0
  case neg =>
    rw [if_neg z1] at CY0
    clear hs0 z1 lb0
    go_enter Try.func13, Try.ntmps13
    go_wp2_with (first | (go_at_call 38; with_reducible refine (CY0.out _ HBz.out).mono ?_; rintro e w30 ⟨rfl, hb1⟩; have HBz0 := Lib.hid (HBz.out.trans (hb1.mono HBz.out.size)); clear hb1) | (go_at_call 60; with_reducible refine CZ.out.mono ?_; rintro e w2 ⟨rfl, hb1⟩; have HBz := Lib.hid (hb.out.trans (hb1.mono hb.out.size)); clear hb1))
    go_ret
    exact ⟨rfl, HBz0.out⟩
  rw [if_pos z1] at CY0
  have CS0 := Lib.hid (fun (W : World) (hW : Below w.heap.size w W) => toSS_any _ y0 W (K0.out.below hW) (by unfold sumR at hs0; omega) (fun xs hx => by have := len_sumR hx; omega))
  obtain ⟨l1, hl1⟩ : ∃ z : Int, z = l0 - (s0 : Int) := ⟨_, rfl⟩
  rw [← hl1] at CY0
  have d1 : decide (l1 < 0) = false := decide_eq_false (by omega)
  have lb1 : 0 ≤ l1 ∧ l1 ≤ 1048576 := by omega
  clear hs0 z1 hl1 lb0
  clear lb1
  obtain ⟨n0, hn0⟩ : ∃ z, z = y0.length := ⟨_, rfl⟩
  have HN0 := Lib.hid hn0
  rw [← hn0] at CS0
  clear hn0
  go_enter Try.func13, Try.ntmps13
  go_wp2_with fail
  go_at_call 60
  with_reducible refine CZ.out.mono ?_
  rintro e w2 ⟨rfl, hb1⟩
  have HB2 := Lib.hid (hb.out.trans (hb1.mono hb.out.size))
  have G2 := Lib.hid (blk_in hH.out hb1)
  obtain ⟨c0, c1⟩ := cells2 G2.out
  have cl := lt_of G2.out
  clear hb1
  go_wp2_with fail
  go_at_call 38
  with_reducible refine (CY0.out _ HB2.out).mono ?_
  rintro e w3 ⟨rfl, hb1⟩
  have HB3 := Lib.hid (HB2.out.trans (hb1.mono HB2.out.size))
  have G3 := Lib.hid (blk_in G2.out hb1)
  clear hb1 c0 c1 cl
  obtain ⟨c0, c1⟩ := cells2 G3.out
  have cl := lt_of G3.out
  go_wp2_with fail
  go_at_call 62
  with_reducible refine (CT.out _ HB3.out).mono ?_
  rintro e w4 ⟨v3, rfl, ho1, hb1⟩
  have HB4 := Lib.hid (HB3.out.trans (hb1.mono HB3.out.size))
  have G4 := Lib.hid (blk_in G3.out hb1)
  have V3 := Lib.hid (ho1.v HW.out)
  clear ho1
  clear hb1 c0 c1 cl
  obtain ⟨c0, c1⟩ := cells2 G4.out
  have cl := lt_of G4.out
  go_wp2_with fail
  go_at_call 41
  with_reducible refine (CS0.out _ HB4.out).mono ?_
  rintro e w5 ⟨rfl, ho1, _, hb1⟩
  have HB5 := Lib.hid (HB4.out.trans (hb1.mono HB4.out.size))
  have G5 := Lib.hid (blk_in G4.out hb1)
  replace V3 := Lib.hid (V3.out.below hb1)
  have Y0 := Lib.hid (show SlR w5 (.slice (some ⟨w4.heap.size, 0, none⟩) n0 n0) y0 from ho1.done HN0.out.symm)
  clear ho1
  clear hb1 c0 c1 cl
  obtain ⟨c0, c1⟩ := cells2 G5.out
  have cl := lt_of G5.out
  go_wp2_with fail
  go_at_call 67
  refine (CS.out _ _ _ V3.out Y0.out).mono ?_
  rintro e w6 ⟨rfl, hb1⟩
  have HB6 := Lib.hid (HB5.out.trans (hb1.mono HB5.out.size))
  have G6 := Lib.hid (blk_in G5.out hb1)
  clear hb1 c0 c1 cl
  obtain ⟨c0, c1⟩ := cells2 G6.out
  have cl := lt_of G6.out
  clear V3 Y0
  go_wp2_with fail
  go_at_call 62
  with_reducible refine (CT.out _ HB6.out).mono ?_
  rintro e w7 ⟨v5, rfl, ho1, hb1⟩
  have HB7 := Lib.hid (HB6.out.trans (hb1.mono HB6.out.size))
  have G7 := Lib.hid (blk_in G6.out hb1)
  have V5 := Lib.hid (ho1.v HW.out)
  clear hb1 c0 c1 cl
  obtain ⟨c0, c1⟩ := cells2 G7.out
  have cl := lt_of G7.out
  obtain ⟨ga, gb, rfl, _, _, _, _⟩ := ho1
  obtain ⟨m1, hm1⟩ : ∃ z, z = x0.progs.length := ⟨_, rfl⟩
  obtain ⟨m2, hm2⟩ : ∃ z, z = x0.links.length := ⟨_, rfl⟩
  rw [← hm1, ← hm2] at V5 ⊢
  clear hm1 hm2
  go_wp2_with fail
  go_at_call 41
  have BX := Lib.hid (hp1 w7 (.cells #[.slice (some ⟨ga, 0, none⟩) m1 m1, .slice (some ⟨gb, 0, none⟩) m2 m2] 52))
  have HBx := Lib.hid (HB7.out.al (.cells #[.slice (some ⟨ga, 0, none⟩) m1 m1, .slice (some ⟨gb, 0, none⟩) m2 m2] 52))
  replace V5 := Lib.hid (V5.out.below ((Below.refl w7.heap.size w7).al (.cells #[.slice (some ⟨ga, 0, none⟩) m1 m1, .slice (some ⟨gb, 0, none⟩) m2 m2] 52)))
  have Gx := Lib.hid (blk_in G7.out ((Below.refl w7.heap.size w7).al (.cells #[.slice (some ⟨ga, 0, none⟩) m1 m1, .slice (some ⟨gb, 0, none⟩) m2 m2] 52)))
  with_reducible refine (CS0.out _ HBx.out).mono ?_
  rintro e w8 ⟨rfl, ho1, _, hb1⟩
  have HB8 := Lib.hid (HBx.out.trans (hb1.mono HBx.out.size))
  have G8 := Lib.hid (blk_in Gx.out hb1)
  have B8 := Lib.hid (blk_in BX.out hb1)
  replace V5 := Lib.hid (V5.out.below hb1)
  have Y0 := Lib.hid (ho1.done HN0.out.symm)
  obtain ⟨g0, hg0⟩ : ∃ z, z = (w7.alloc (.cells #[.slice (some ⟨ga, 0, none⟩) m1 m1, .slice (some ⟨gb, 0, none⟩) m2 m2] 52)).heap.size := ⟨_, rfl⟩
  rw [← hg0] at Y0 ⊢
  clear ho1 hb1 c0 c1 cl hg0
  obtain ⟨c0, c1⟩ := cells2 G8.out
  have cl := lt_of G8.out
  obtain ⟨b0, b1⟩ := cells2 B8.out
  have bl := lt_of B8.out
  go_wp2_with fail
  go_at_call 68
  refine (CI.out _ _ _ V5.out Y0.out).mono ?_
  rintro e w9 ⟨rfl, hb1⟩
  have HB9 := Lib.hid (HB8.out.trans (hb1.mono HB8.out.size))
  have G9 := Lib.hid (blk_in G8.out hb1)
  have B9 := Lib.hid (blk_in B8.out hb1)
  replace V5 := Lib.hid (V5.out.below hb1)
  replace Y0 := Lib.hid (Y0.out.below hb1)
  clear hb1 c0 c1 cl b0 b1 bl
  obtain ⟨c0, c1⟩ := cells2 G9.out
  have cl := lt_of G9.out
  obtain ⟨b0, b1⟩ := cells2 B9.out
  have bl := lt_of B9.out
  go_upto_region 14 with fail
  have HB6 := HB9
  have G6 := G9
  have B6 := B9
  go_region_held3 (fun w' => w'.cell? ⟨w7.heap.size, 0, none⟩ = some (.slice (some ⟨ga, 0, none⟩) m1 m1) ∧ w'.cell? ⟨w7.heap.size, 1, none⟩ = some (.slice (some ⟨gb, 0, none⟩) m2 m2) ∧ w'.cell? ⟨w.heap.size, 0, none⟩ = some (.slice pa pn pcap) ∧ w'.cell? ⟨w.heap.size, 1, none⟩ = some (.slice la ln lcap)) (go_keep)
    (first | (go_at_call 62; refine (CT.out _ (by first | with_reducible exact HB6.out | with_reducible exact HB6.out.drew)).mono ?_; rintro e W7 ⟨v7, rfl, ho7, hb7⟩; have hc7 := (show Below w9.heap.size w9 W7 by first | with_reducible exact hb7 | with_reducible exact cr_d hb7); have HB7 := Lib.hid (HB6.out.trans (hc7.mono HB6.out.size)); have V7 := Lib.hid (ho7.v HW.out); have V67 := Lib.hid (V5.out.below hc7); have Y07 := Lib.hid (Y0.out.below hc7); have q7 := blk_in G6.out hc7; obtain ⟨x0', x1'⟩ := cells2 q7; have p7 := blk_in B6.out hc7; obtain ⟨y0', y1'⟩ := cells2 p7; have Q7 := Lib.hid q7; have P7 := Lib.hid p7; clear ho7 hb7 hc7 q7 p7) | (go_at_call 55; refine (eqNet_ok _ _ x0 _ V67.out V7.out).mono ?_; rintro e W8 ⟨rfl, hb8⟩; have HB8 := Lib.hid (HB7.out.trans (hb8.mono HB7.out.size)); have Y08 := Lib.hid (Y07.out.below hb8); have q8 := blk_in Q7.out hb8; obtain ⟨x0', x1'⟩ := cells2 q8; have p8 := blk_in P7.out hb8; obtain ⟨y0', y1'⟩ := cells2 p8; clear hb8 q8 p8))
  all_goals
    go_wp2_with fail
    go_at_call 41
    with_reducible refine (CS0.out _ HB8.out).mono ?_
    rintro e WA0 ⟨rfl, ho1, _, hb1⟩
    have YA00 := Lib.hid (Y08.out.below hb1)
    have HBA0 := Lib.hid (HB8.out.trans (hb1.mono HB8.out.size))
    have Z0 := Lib.hid (ho1.done HN0.out.symm)
    clear ho1 hb1
    go_wp2_with fail
    go_at_call 42
    refine (eqSS_ok _ _ y0 _ YA00.out Z0.out).mono ?_
    rintro e WB0 ⟨rfl, hb1⟩
    have HBB0 := Lib.hid (HBA0.out.trans (hb1.mono HBA0.out.size))
    clear hb1
    go_wp2_with fail
    go_ret
    exact ⟨rfl, HBB0.out⟩
end Go.Proofs.Ytfjmebggghkehaa
