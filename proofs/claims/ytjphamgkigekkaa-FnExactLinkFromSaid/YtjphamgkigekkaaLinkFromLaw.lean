/-
  The walk of the law FnExactLinkFrom: it answers true and changes nothing that was there.
-/
import Derived.Test.YtjphamgkigekkaaSLink
import Derived.Test.YtjphamgkigekkaaILink
import Derived.Test.YtjphamgkigekkaaNetEq
import Derived.Test.YtjphamgkigekkaaNetSz
import Derived.Deep.Cut
namespace Go.Proofs.Ytjphamgkigekkaa
open Go.RowKit

set_option maxRecDepth 100000 in
set_option maxHeartbeats 8000000 in
theorem fnExactLinkFrom_walk (v0 : Value) (x0 : Net) (x1 : Int) (x2 : Int) (w : World) (h0 : NetV w v0 x0) (_h1 : (Lit.int .i64 x1).wf = true) (_h2 : (Lit.int .i64 x2).wf = true) :
    Calls Try.prog 14 #[v0, .int .i64 x1, .int .i64 x2] w fun e w' => e = .returned (.bool true) ∧ Below w.heap.size w w' := by
  have H0 := Lib.hid h0
  have HWF : ∀ l ∈ x0.links, wfL l := by obtain ⟨_, _, _, _, hl⟩ := h0; exact hl.wf
  have HW := Lib.hid HWF
  obtain ⟨cp, cl, rfl, hp, hl⟩ := h0
  obtain ⟨pa, pcap, rfl⟩ := hp.shape
  obtain ⟨la, lcap, rfl⟩ := hl.shape
  obtain ⟨pn, hpn⟩ : ∃ z, z = x0.progs.length := ⟨_, rfl⟩
  obtain ⟨ln, hln⟩ : ∃ z, z = x0.links.length := ⟨_, rfl⟩
  rw [← hpn, ← hln] at H0 ⊢
  clear hp hl hpn hln HWF
  obtain ⟨r0, hr0⟩ : ∃ z, z = linkFromR0 x0 x1 x2 := ⟨_, rfl⟩
  obtain ⟨r1, hr1⟩ : ∃ z, z = linkFromR1 x0 x1 x2 := ⟨_, rfl⟩
  have HR := Lib.hid (show r0 = linkFromR0 x0 x1 x2 ∧ r1 = linkFromR1 x0 x1 x2 ∧ True from ⟨hr0, hr1, trivial⟩)
  have CS := Lib.hid (fun (v : Value) (W : World) (hv : NetV W v x0) => (show Calls Try.prog 54 #[v, .int .i64 x1, .int .i64 x2] W fun e w' => e = .returned (.tuple #[.int .i64 r0, .bool r1]) ∧ Below W.heap.size W w' by have q := slinkFrom_any v x0 x1 x2 W hv; rw [← hr0, ← hr1] at q; exact q))
  have CI := Lib.hid (fun (v : Value) (W : World) (hv : NetV W v x0) => (show Calls Try.prog 55 #[v, .int .i64 x1, .int .i64 x2] W fun e w' => e = .returned (.tuple #[.int .i64 r0, .bool r1]) ∧ Below W.heap.size W w' by have q := ilinkFrom_any v x0 x1 x2 W hv; rw [← hr0, ← hr1] at q; exact q))
  clear hr0 hr1
  have hb := Lib.hid ((Below.refl w.heap.size w).al (.cells #[.slice pa pn pcap, .slice la ln lcap] 25))
  have hH := Lib.hid (hp1 w (.cells #[.slice pa pn pcap, .slice la ln lcap] 25))
  have CZ := Lib.hid (szNet_any _ x0 1048576 _ (H0.out.below hb.out) ⟨by omega, by omega⟩)
  obtain ⟨sn, hsn⟩ : ∃ z, z = szN x0 := ⟨_, rfl⟩
  rw [← hsn] at CZ
  by_cases z0 : (sn : Int) ≤ 1048576
  case neg =>
    rw [if_neg z0] at CZ
    clear hsn z0
    go_enter Try.func14, Try.ntmps14
    go_wp2_with (go_at_call 15; with_reducible refine CZ.out.mono ?_; rintro e w2 ⟨rfl, hb1⟩; have HB1 := Lib.hid (hb.out.trans (hb1.mono hb.out.size)); clear hb1)
    go_ret
    exact ⟨rfl, HB1.out⟩
  rw [if_pos z0] at CZ
  have CT := Lib.hid (fun (W : World) (hW : Below w.heap.size w W) => toNet_any _ x0 W (H0.out.below hW) (by rw [← hsn]; omega))
  obtain ⟨l1, hl1⟩ : ∃ z : Int, z = 1048576 - (sn : Int) := ⟨_, rfl⟩
  rw [← hl1] at CZ
  have d1 : decide (l1 < 0) = false := decide_eq_false (by omega)
  clear hsn z0 hl1
  go_enter Try.func14, Try.ntmps14
  go_wp2_with fail
  go_at_call 15
  with_reducible refine CZ.out.mono ?_
  rintro e w2 ⟨rfl, hb1⟩
  have HB2 := Lib.hid (hb.out.trans (hb1.mono hb.out.size))
  have G2 := Lib.hid (blk_in hH.out hb1)
  obtain ⟨c0, c1⟩ := cells2 G2.out
  have cl := lt_of G2.out
  clear hb1
  go_wp2_with fail
  go_at_call 18
  with_reducible refine (CT.out _ HB2.out).mono ?_
  rintro e w3 ⟨v3, rfl, ho3, hb3⟩
  have HB3 := Lib.hid (HB2.out.trans (hb3.mono HB2.out.size))
  have V3 := Lib.hid (ho3.v HW.out)
  have G3 := Lib.hid (blk_in G2.out hb3)
  clear ho3 hb3 c0 c1 cl
  go_wp2_with fail
  go_at_call 54
  refine (CS.out _ _ V3.out).mono ?_
  rintro e w4 ⟨rfl, hb4⟩
  have HB4 := Lib.hid (HB3.out.trans (hb4.mono HB3.out.size))
  have G4 := Lib.hid (blk_in G3.out hb4)
  obtain ⟨c0, c1⟩ := cells2 G4.out
  have cl := lt_of G4.out
  clear hb4
  go_wp2_with fail
  go_at_call 18
  with_reducible refine (CT.out _ HB4.out).mono ?_
  rintro e w5 ⟨v5, rfl, ho5, hb5⟩
  have HB5 := Lib.hid (HB4.out.trans (hb5.mono HB4.out.size))
  have V5 := Lib.hid (ho5.v HW.out)
  have G5 := Lib.hid (blk_in G4.out hb5)
  obtain ⟨ga, gb, rfl, _, _, _, _⟩ := ho5
  have K5 := Lib.hid (show ∃ z1 z2 : Nat, z1 = x0.progs.length ∧ z2 = x0.links.length from ⟨_, _, rfl, rfl⟩)
  obtain ⟨m1, hm1⟩ : ∃ z, z = x0.progs.length := ⟨_, rfl⟩
  obtain ⟨m2, hm2⟩ : ∃ z, z = x0.links.length := ⟨_, rfl⟩
  rw [← hm1, ← hm2] at V5 ⊢
  clear hb5 c0 c1 cl hm1 hm2 K5
  obtain ⟨c0, c1⟩ := cells2 G5.out
  have cl := lt_of G5.out
  go_wp2_with fail
  go_at_call 55
  have BX := Lib.hid (hp1 w5 (.cells #[.slice (some ⟨ga, 0, none⟩) m1 m1, .slice (some ⟨gb, 0, none⟩) m2 m2] 34))
  have HB5' := Lib.hid (HB5.out.al (.cells #[.slice (some ⟨ga, 0, none⟩) m1 m1, .slice (some ⟨gb, 0, none⟩) m2 m2] 34))
  have V5' := Lib.hid (V5.out.below ((Below.refl w5.heap.size w5).al (.cells #[.slice (some ⟨ga, 0, none⟩) m1 m1, .slice (some ⟨gb, 0, none⟩) m2 m2] 34)))
  have G5' := Lib.hid (blk_in G5.out ((Below.refl w5.heap.size w5).al (.cells #[.slice (some ⟨ga, 0, none⟩) m1 m1, .slice (some ⟨gb, 0, none⟩) m2 m2] 34)))
  refine (CI.out _ _ V5'.out).mono ?_
  rintro e w6 ⟨rfl, hb6⟩
  have HB6 := Lib.hid (HB5'.out.trans (hb6.mono HB5'.out.size))
  have G6 := Lib.hid (blk_in G5'.out hb6)
  have B6 := Lib.hid (blk_in BX.out hb6)
  have V6 := Lib.hid (V5'.out.below hb6)
  clear hb6 c0 c1 cl
  obtain ⟨c0, c1⟩ := cells2 G6.out
  have cl := lt_of G6.out
  obtain ⟨b0, b1⟩ := cells2 B6.out
  have bl := lt_of B6.out
  go_upto_region 10 with fail
  go_region_held3 (fun w' => w'.cell? ⟨w5.heap.size, 0, none⟩ = some (.slice (some ⟨ga, 0, none⟩) m1 m1) ∧ w'.cell? ⟨w5.heap.size, 1, none⟩ = some (.slice (some ⟨gb, 0, none⟩) m2 m2) ∧ w'.cell? ⟨w.heap.size, 0, none⟩ = some (.slice pa pn pcap) ∧ w'.cell? ⟨w.heap.size, 1, none⟩ = some (.slice la ln lcap)) (go_keep)
    (first | (go_at_call 18; refine (CT.out _ (by first | with_reducible exact HB6.out | with_reducible exact HB6.out.drew)).mono ?_; rintro e w7 ⟨v7, rfl, ho7, hb7⟩; have hc7 := (show Below w6.heap.size w6 w7 by first | with_reducible exact hb7 | with_reducible exact cr_d hb7); have HB7 := Lib.hid (HB6.out.trans (hc7.mono HB6.out.size)); have V7 := Lib.hid (ho7.v HW.out); have V67 := Lib.hid (V6.out.below hc7); have q7 := blk_in G6.out hc7; obtain ⟨x0', x1'⟩ := cells2 q7; have p7 := blk_in B6.out hc7; obtain ⟨y0', y1'⟩ := cells2 p7; have Q7 := Lib.hid q7; have P7 := Lib.hid p7; clear ho7 hb7 hc7 q7 p7) | (go_at_call 22; refine (eqNet_ok _ _ x0 _ V67.out V7.out).mono ?_; rintro e w8 ⟨rfl, hb8⟩; have HB8 := Lib.hid (HB7.out.trans (hb8.mono HB7.out.size)); have q8 := blk_in Q7.out hb8; obtain ⟨x0', x1'⟩ := cells2 q8; have p8 := blk_in P7.out hb8; obtain ⟨y0', y1'⟩ := cells2 p8; clear hb8 q8 p8))
  all_goals
    go_wp2_with fail
    go_ret
    exact ⟨rfl, HB8.out⟩
end Go.Proofs.Ytjphamgkigekkaa
