/-
  The walk of the law FnExactOutputsOf: it answers true and changes nothing that was there.
-/
import Derived.Test.YthniafpkkgcjnaaInOut
import Derived.Test.YthniafpkkgcjnaaNetEq
import Derived.Test.YthniafpkkgcjnaaNetSz
import Derived.Test.YthniafpkkgcjnaaNetMk
import Derived.Deep.Cut
import Derived.Deep.RegionHeld3
namespace Go.Proofs.Ythniafpkkgcjnaa
open Go.RowKit

set_option maxRecDepth 100000 in
set_option maxHeartbeats 16000000 in
theorem fnExactOutputsOf_walk (v0 : Value) (x0 : Net) (w : World) (h0 : NetV w v0 x0) :
    Calls Try.prog 13 #[v0] w fun e w' => e = .returned (.bool true) ∧ Below w.heap.size w w' := by
  have H0 := Lib.hid h0
  have HWF : ∀ l ∈ x0.links, wfL l := by obtain ⟨_, _, _, _, hl⟩ := h0; exact hl.wf
  have HW := Lib.hid HWF
  obtain ⟨cp, cl, rfl, hp, hl⟩ := h0
  obtain ⟨pa, pcap, rfl⟩ := hp.shape
  obtain ⟨la, lcap, rfl⟩ := hl.shape
  obtain ⟨pn, hpn⟩ : ∃ z, z = x0.progs.length := ⟨_, rfl⟩
  obtain ⟨ln, hln⟩ : ∃ z, z = x0.links.length := ⟨_, rfl⟩
  rw [← hpn, ← hln] at H0 ⊢
  clear hp hl hpn hln HWF
  obtain ⟨R, hr0⟩ : ∃ z, z = outputsOfR0 x0  := ⟨_, rfl⟩
  have HLN := Lib.hid (show R.length ≤ 1000000 by rw [hr0]; exact outputsOf_len0 x0 )
  have CS := Lib.hid (fun (v : Value) (W : World) (hv : NetV W v x0) => (show Calls Try.prog 64 #[v] W fun e w' => ∃ r, e = .returned (r) ∧ Own W.heap.size w' r R ∧ Below W.heap.size W w' by have q := soutputsOf_any v x0 W hv; rw [← hr0] at q; exact q))
  have CI := Lib.hid (fun (v : Value) (W : World) (hv : NetV W v x0) => (show Calls Try.prog 34 #[v] W fun e w' => ∃ r, e = .returned (r) ∧ Own W.heap.size w' r R ∧ Below W.heap.size W w' by have q := ioutputsOf_any v x0 W hv; rw [← hr0] at q; exact q))
  clear hr0
  have hb := Lib.hid ((Below.refl w.heap.size w).al (.cells #[.slice pa pn pcap, .slice la ln lcap] 84))
  have hH := Lib.hid (hp1 w (.cells #[.slice pa pn pcap, .slice la ln lcap] 84))
  have CZ := Lib.hid (szNet_any _ x0 1048576 _ (H0.out.below hb.out) ⟨by omega, by omega⟩)
  obtain ⟨sn, hsn⟩ : ∃ z, z = szN x0 := ⟨_, rfl⟩
  rw [← hsn] at CZ
  by_cases z0 : (sn : Int) ≤ 1048576
  case neg =>
    rw [if_neg z0] at CZ
    clear hsn z0
    go_enter Try.func13, Try.ntmps13
    go_wp2_with (go_at_call 57; with_reducible refine CZ.out.mono ?_; rintro e w2 ⟨rfl, hb1⟩; have HB1 := Lib.hid (hb.out.trans (hb1.mono hb.out.size)); clear hb1)
    go_ret
    exact ⟨rfl, HB1.out⟩
  rw [if_pos z0] at CZ
  have CT := Lib.hid (fun (W : World) (hW : Below w.heap.size w W) => toNet_any _ x0 W (H0.out.below hW) (by rw [← hsn]; omega))
  obtain ⟨sk, hsk⟩ : ∃ z, z = stN x0 := ⟨_, rfl⟩
  have hsk2 : sk ≤ 4194304 := by have := stN_le x0; omega
  have CM := Lib.hid (fun (lo hi : Nat) (v : Value) (W : World) (h : NetO lo hi W v x0) (hh : hi ≤ W.heap.size) => (show Calls Try.prog 63 #[v, .int .i64 1] W fun e w' => e = .returned (.int .i64 (1 + (sk : Int))) ∧ Out lo hi W w' by have q := markNet_any lo hi v x0 1 W h hh (by omega) (by omega); rw [← hsk] at q; exact q))
  have dk : decide (1 + (sk : Int) < 0) = false := decide_eq_false (by omega)
  have dm : decide (1 + (R.length : Int) < 0) = false := decide_eq_false (by omega)
  obtain ⟨l1, hl1⟩ : ∃ z : Int, z = 1048576 - (sn : Int) := ⟨_, rfl⟩
  rw [← hl1] at CZ
  have d1 : decide (l1 < 0) = false := decide_eq_false (by omega)
  clear hsn z0 hl1 hsk hsk2
  go_enter Try.func13, Try.ntmps13
  go_wp2_with fail
  go_at_call 57
  with_reducible refine CZ.out.mono ?_
  rintro e w2 ⟨rfl, hb1⟩
  have HB2 := Lib.hid (hb.out.trans (hb1.mono hb.out.size))
  have GA := Lib.hid (blk_in hH.out hb1)
  obtain ⟨c0, c1⟩ := cells2 GA.out
  have cl := lt_of GA.out
  clear hb1
  go_wp2_with fail
  go_at_call 59
  with_reducible refine (CT.out _ HB2.out).mono ?_
  rintro e w3 ⟨v3, rfl, ho3, hb3⟩
  have V3 := Lib.hid (ho3.v HW.out)
  clear ho3 c0 c1 cl
  have HB3 := Lib.hid (HB2.out.trans (hb3.mono HB2.out.size))
  replace GA := Lib.hid (blk_in GA.out hb3)
  clear hb3
  go_wp2_with fail
  go_at_call 64
  refine (CS.out _ _ V3.out).mono ?_
  rintro e w4 ⟨vr, rfl, oR, hb4⟩
  obtain ⟨ra, rk, rfl⟩ := oR.shape
  have uR := Lib.hid (show ∀ k, (Value.slice ra R.length rk).ownBlock = some k → k < w4.heap.size from fun k e => (oR.lt k e).2)
  have OR := Lib.hid (Own.mono (lo' := w.heap.size) oR HB3.out.size)
  have HB4 := Lib.hid (HB3.out.trans (hb4.mono HB3.out.size))
  replace GA := Lib.hid (blk_in GA.out hb4)
  have S4 := Lib.hid (show w.heap.size < w4.heap.size from lt_of GA.out)
  obtain ⟨c0, c1⟩ := cells2 GA.out
  have cl := lt_of GA.out
  clear hb4 oR V3
  go_wp2_with fail
  go_at_call 59
  with_reducible refine (CT.out _ HB4.out).mono ?_
  rintro e w5 ⟨v5, rfl, ho5, hb5⟩
  have V5 := Lib.hid (ho5.v HW.out)
  have N5 := Lib.hid ho5
  have HB5 := Lib.hid (HB4.out.trans (hb5.mono HB4.out.size))
  replace GA := Lib.hid (blk_in GA.out hb5)
  replace OR := Lib.hid (OR.out.below hb5)
  have S5 := Lib.hid hb5.size
  obtain ⟨ga, gb, rfl, _, _, _, _⟩ := ho5
  obtain ⟨m1, hm1⟩ : ∃ z, z = x0.progs.length := ⟨_, rfl⟩
  obtain ⟨m2, hm2⟩ : ∃ z, z = x0.links.length := ⟨_, rfl⟩
  rw [← hm1, ← hm2] at V5 N5 ⊢
  clear hb5 c0 c1 cl hm1 hm2
  obtain ⟨c0, c1⟩ := cells2 GA.out
  have cl := lt_of GA.out
  go_wp2_with fail
  go_at_call 34
  have BX := Lib.hid (hp1 w5 (.cells #[.slice (some ⟨ga, 0, none⟩) m1 m1, .slice (some ⟨gb, 0, none⟩) m2 m2] 52))
  have hb6 := (Below.refl w5.heap.size w5).al (.cells #[.slice (some ⟨ga, 0, none⟩) m1 m1, .slice (some ⟨gb, 0, none⟩) m2 m2] 52)
  obtain ⟨W6, hW6⟩ : ∃ W, W = w5.alloc (.cells #[.slice (some ⟨ga, 0, none⟩) m1 m1, .slice (some ⟨gb, 0, none⟩) m2 m2] 52) := ⟨_, rfl⟩
  have S6 := Lib.hid (show W6.heap.size = w5.heap.size + 1 by rw [hW6]; simp)
  rw [← hW6] at BX hb6 ⊢
  clear hW6 c0 c1 cl
  have V6 := Lib.hid (V5.out.below hb6)
  have N6 := Lib.hid (N5.out.below hb6)
  have HB6 := Lib.hid (HB5.out.trans (hb6.mono HB5.out.size))
  replace GA := Lib.hid (blk_in GA.out hb6)
  replace OR := Lib.hid (OR.out.below hb6)
  refine (CI.out _ _ V6.out).mono ?_
  rintro e w7 ⟨vg, rfl, oG, hb7⟩
  obtain ⟨ga0, gk, rfl⟩ := oG.shape
  have uG := Lib.hid (show ∀ k, (Value.slice ga0 R.length gk).ownBlock = some k → k < w7.heap.size from fun k e => (oG.lt k e).2)
  have OG := Lib.hid (Own.mono (lo' := w5.heap.size + 1) oG (by rw [S6.out]; exact Nat.le_refl _))
  have HB7 := Lib.hid (HB6.out.trans (hb7.mono HB6.out.size))
  replace GA := Lib.hid (blk_in GA.out hb7)
  replace BX := Lib.hid (blk_in BX.out hb7)
  replace OR := Lib.hid (OR.out.below hb7)
  have V7 := Lib.hid (V6.out.below hb7)
  have N7 := Lib.hid (N6.out.below hb7)
  have S7 := Lib.hid hb7.size
  clear hb6 hb7 V5 N5 V6 N6 oG
  obtain ⟨c0, c1⟩ := cells2 GA.out
  have cl := lt_of GA.out
  obtain ⟨b0, b1⟩ := cells2 BX.out
  have bl := lt_of BX.out
  go_wp2_with fail
  go_at_call 50
  refine (eqS_ok _ _ _ _ OG.out.sl OR.out.sl).mono ?_
  rintro e w8 ⟨rfl, hb8⟩
  have HB8 := Lib.hid (HB7.out.trans (hb8.mono HB7.out.size))
  replace GA := Lib.hid (blk_in GA.out hb8)
  replace BX := Lib.hid (blk_in BX.out hb8)
  replace OR := Lib.hid (OR.out.below hb8)
  replace OG := Lib.hid (OG.out.below hb8)
  have V8 := Lib.hid (V7.out.below hb8)
  have N8 := Lib.hid (N7.out.below hb8)
  have S8 := Lib.hid hb8.size
  clear hb8 V7 N7 c0 c1 cl b0 b1 bl
  obtain ⟨c0, c1⟩ := cells2 GA.out
  have cl := lt_of GA.out
  obtain ⟨b0, b1⟩ := cells2 BX.out
  have bl := lt_of BX.out
  go_upto_region 10 with fail
  go_cut [31] from 11 (fun s wr => s = .bool false ∧ Hid (Below w8.heap.size w8 wr))
  case first =>
    go_region_held3 (fun w' => w'.cell? ⟨w5.heap.size, 0, none⟩ = some (.slice (some ⟨ga, 0, none⟩) m1 m1) ∧ w'.cell? ⟨w5.heap.size, 1, none⟩ = some (.slice (some ⟨gb, 0, none⟩) m2 m2) ∧ w'.cell? ⟨w.heap.size, 0, none⟩ = some (.slice pa pn pcap) ∧ w'.cell? ⟨w.heap.size, 1, none⟩ = some (.slice la ln lcap)) (go_keep)
      (first | (go_at_call 59; refine (CT.out _ (by first | with_reducible exact HB8.out | with_reducible exact HB8.out.drew)).mono ?_; rintro e w9 ⟨v9, rfl, ho9, hb9⟩; have hc9 := (show Below w8.heap.size w8 w9 by first | with_reducible exact hb9 | with_reducible exact cr_d hb9); have HX9 := Lib.hid hc9; have V9 := Lib.hid (ho9.v HW.out); have V89 := Lib.hid (V8.out.below hc9); have q7 := blk_in GA.out hc9; obtain ⟨x0', x1'⟩ := cells2 q7; have p7 := blk_in BX.out hc9; obtain ⟨y0', y1'⟩ := cells2 p7; have Q7 := Lib.hid q7; have P7 := Lib.hid p7; clear ho9 hb9 hc9 q7 p7) | (go_at_call 61; refine (eqNet_ok _ _ x0 _ V89.out V9.out).mono ?_; rintro e w10 ⟨rfl, hb10⟩; have HX10 := Lib.hid (HX9.out.trans (hb10.mono HX9.out.size)); have q8 := blk_in Q7.out hb10; obtain ⟨x0', x1'⟩ := cells2 q8; have p8 := blk_in P7.out hb10; obtain ⟨y0', y1'⟩ := cells2 p8; clear hb10 q8 p8))
    all_goals
      go_wp2_with fail
      go_meet
      case rel => exact ⟨rfl, HX10⟩
  rename World => w9
  obtain ⟨rfl, hb9⟩ := hcut
  replace hb9 := hb9.out
  have HB9 := Lib.hid (HB8.out.trans (hb9.mono HB8.out.size))
  replace GA := Lib.hid (blk_in GA.out hb9)
  replace BX := Lib.hid (blk_in BX.out hb9)
  replace OR := Lib.hid (OR.out.below hb9)
  replace OG := Lib.hid (OG.out.below hb9)
  have N9 := Lib.hid (N8.out.below hb9)
  have S9 := Lib.hid hb9.size
  clear hb9 V8 N8 c0 c1 cl b0 b1 bl
  obtain ⟨b0, b1⟩ := cells2 BX.out
  have bl := lt_of BX.out
  go_wp2_with fail
  go_at_call 63
  with_reducible refine (CM.out _ _ _ _ N9.out (by have := S6.out; have := S7.out; have := S8.out; have := S9.out; omega)).mono ?_
  rintro e w10 ⟨rfl, hO⟩
  have HB10 := Lib.hid (hO.below HB9.out HB9.out.size HB4.out.size)
  replace GA := Lib.hid (hO.blk GA.out (.inl S4.out))
  replace OR := Lib.hid (OR.out.out uR.out hO (.inl (Nat.le_refl _)))
  replace OG := Lib.hid (OG.out.out uG.out hO (.inr (by omega)))
  have S10 := Lib.hid hO.size
  clear hO N9 b0 b1 bl BX
  go_wp2_with fail
  go_at_call 50
  refine (eqS_ok _ _ _ _ OG.out.sl OR.out.sl).mono ?_
  rintro e w11 ⟨rfl, hb11⟩
  have HB11 := Lib.hid (HB10.out.trans (hb11.mono HB10.out.size))
  replace GA := Lib.hid (blk_in GA.out hb11)
  replace OR := Lib.hid (OR.out.below hb11)
  replace OG := Lib.hid (OG.out.below hb11)
  have S11 := Lib.hid hb11.size
  clear hb11
  go_wp2_with fail
  refine (mark_any _ _ R 1 _ OG.out (by omega) (by omega) (by have := HLN.out; omega)).mono ?_
  rintro e w12 ⟨rfl, mG, hg⟩
  have hO := Out.of_grown (lo := w5.heap.size + 1) (hi := w7.heap.size) hg (fun k e => ⟨(OG.out.lt k e).1, uG.out k e⟩)
  have HB12 := Lib.hid (hO.below HB11.out HB11.out.size (by have := HB4.out.size; have := S5.out; omega))
  replace GA := Lib.hid (hO.blk GA.out (.inl (by have := S4.out; have := S5.out; omega)))
  replace OR := Lib.hid (OR.out.out uR.out hO (.inl (by have := S5.out; omega)))
  clear hg hO OG
  have OG := Lib.hid mG
  clear mG
  go_wp2_with fail
  refine (held_any _ 1 R.length _ OG.out.sl (by omega) (by omega) (by have := HLN.out; omega)).mono ?_
  rintro e w' ⟨rfl, rfl⟩
  obtain ⟨c0, c1⟩ := cells2 GA.out
  have cl := lt_of GA.out
  go_wp2_with fail
  go_at_call 59
  with_reducible refine (CT.out _ HB12.out).mono ?_
  rintro e w13 ⟨v13, rfl, ho13, hb13⟩
  have V13 := Lib.hid (ho13.v HW.out)
  have HB13 := Lib.hid (HB12.out.trans (hb13.mono HB12.out.size))
  replace OR := Lib.hid (OR.out.below hb13)
  replace OG := Lib.hid (OG.out.below hb13)
  clear ho13 hb13 c0 c1 cl
  go_wp2_with fail
  go_at_call 34
  refine (CI.out _ _ V13.out).mono ?_
  rintro e w14 ⟨vh, rfl, oH, hb14⟩
  obtain ⟨ha0, hk, rfl⟩ := oH.shape
  have OH := Lib.hid oH
  have HB14 := Lib.hid (HB13.out.trans (hb14.mono HB13.out.size))
  replace OR := Lib.hid (OR.out.below hb14)
  replace OG := Lib.hid (OG.out.below hb14)
  clear oH hb14 V13
  go_wp2_with fail
  go_at_call 50
  refine (eqS_ok _ _ _ _ OH.out.sl OR.out.sl).mono ?_
  rintro e w15 ⟨rfl, hb15⟩
  have HB15 := Lib.hid (HB14.out.trans (hb15.mono HB14.out.size))
  replace OG := Lib.hid (OG.out.below hb15)
  clear hb15
  go_wp2_with fail
  refine (held_any _ 1 R.length _ OG.out.sl (by omega) (by omega) (by have := HLN.out; omega)).mono ?_
  rintro e w' ⟨rfl, rfl⟩
  go_wp2_with fail
  go_ret
  exact ⟨rfl, HB15.out⟩
end Go.Proofs.Ythniafpkkgcjnaa
