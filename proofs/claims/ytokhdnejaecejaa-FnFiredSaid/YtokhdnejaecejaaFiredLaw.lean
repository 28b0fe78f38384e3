/-
  The walk of the law FnFired: it answers true and changes nothing that was there.
-/
import Derived.Test.YtokhdnejaecejaaGrD
import Derived.Test.YtokhdnejaecejaaFdM
import Derived.Test.YtokhdnejaecejaaCmI
import Derived.Test.YtokhdnejaecejaaExI
import Derived.Test.YtokhdnejaecejaaEq2
namespace Go.Proofs.Ytokhdnejaecejaa
open Go.RowKit

set_option maxRecDepth 100000 in
set_option maxHeartbeats 16000000 in
theorem fnFired_walk {v : Value} {bs : List Int} (w : World) (h : Sb w v bs) :
    Calls Try.prog 8 #[v] w fun e w' => e = .returned (.bool true) ∧ Below w.heap.size w w' := by
  have HS := Lib.hid h
  obtain ⟨a, cap, rfl, _, hmx, _, _⟩ := h
  have hm' : bs.length ≤ 9223372036854775807 := by unfold maxLen at hmx; omega
  clear hmx
  obtain ⟨bl, hbl⟩ : ∃ l, l = bs.length := ⟨_, rfl⟩
  rw [← hbl] at HS hm' ⊢
  have HBL := Lib.hid hbl
  clear hbl
  by_cases hs : bl ≤ 1048576
  case neg =>
    have d1 : decide ((bl : Int) > 1048576) = true := decide_eq_true (by omega)
    have d1' : decide (1048576 < (bl : Int)) = true := decide_eq_true (by omega)
    go_enter Try.func8, Try.ntmps8
    go_wp2_with fail
    go_ret
    exact ⟨rfl, Below.refl _ _⟩
  have d1 : decide ((bl : Int) > 1048576) = false := decide_eq_false (by omega)
  have d1' : decide (1048576 < (bl : Int)) = false := decide_eq_false (by omega)
  have HL := Lib.hid (show bs.length ≤ 1048576 by rw [← HBL.out]; exact hs)
  obtain ⟨i0, hi, hz0, hz1, hz2⟩ := info_parts info
  clear hs
  have AT := Lib.hid (fun (W : World) (hW : Below w.heap.size w W) (i : Int) (h0 : 0 ≤ i) (h1 : i ≤ 1000) => at_any _ bs i W (HS.out.below hW) HL.out h0 h1)
  go_enter Try.func8, Try.ntmps8
  go_wp2_with (go_at_call 37; refine (smakeg_any _ bs _ HS.out HL.out).mono ?_; rintro e w1 ⟨gu, g, rfl, hg, hn, he, hb1⟩; obtain ⟨n, es⟩ := g; simp only [] at hn he hg; obtain ⟨nn, rfl⟩ : ∃ q : Nat, n = (q : Int) := ⟨n.toNat, by omega⟩; have HG1 := Lib.hid hg; obtain ⟨ga, gc, rfl⟩ := hg.shape; obtain ⟨m, hm⟩ : ∃ q, q = es.length := ⟨_, rfl⟩; have HM := Lib.hid hm; have HB1 := Lib.hid hb1; rw [← hm] at HG1 he ⊢; clear hg hm hb1)
  have hnn : nn ≤ 5 := by omega
  have hbA := (Below.refl w1.heap.size w1).al (.cells #[.int .i64 nn, .slice ga m gc] 29)
  have hA := hp1 w1 (.cells #[.int .i64 nn, .slice ga m gc] 29)
  have hlA := lit0 (w1.alloc (.cells #[.int .i64 nn, .slice ga m gc] 29))
  rw [show (w1.alloc (.cells #[.int .i64 nn, .slice ga m gc] 29)).heap.size = w1.heap.size + 1 by simp] at hlA
  have hbB := hbA.al (.cells #[] 3)
  have HW2 := Lib.hid hbB
  have HBX2 := Lib.hid (blk_in hA ((Below.refl (w1.alloc (.cells #[.int .i64 nn, .slice ga m gc] 29)).heap.size (w1.alloc (.cells #[.int .i64 nn, .slice ga m gc] 29))).al (.cells #[] 3)))
  have HT2 := Lib.hid (show Own (w1.heap.size + 1) _ (.slice (some ⟨w1.heap.size + 1, 0, none⟩) 0 0) [] from hlA)
  clear hbA hA hlA hbB hn
  go_loopw [4, 31] (fun u i wr => ∃ (k : Nat) (ts : List Int), k ≤ m ∧ i = .int .i64 k ∧ Hid (Own (w1.heap.size + 1) wr u ts) ∧ Hid (ts.length = k) ∧ Hid (∀ x ∈ ts, 0 ≤ x ∧ x ≤ 7) ∧ Hid (wr.heap[w1.heap.size]? = some (.cells #[.int .i64 nn, .slice ga m gc] 29)) ∧ Hid (Below w1.heap.size w1 wr)) (fun _ i _ => m - (intOf i).toNat)
  case atStart => exact ⟨0, [], Nat.zero_le _, rfl, HT2, Lib.hid rfl, Lib.hid (fun x hx => by simp at hx), HBX2, HW2⟩
  case round =>
    clear HT2 HBX2 HW2
    obtain ⟨k, ts, hk, rfl, HT, HTL, HTX, HBX, HW⟩ := hrel
    have HB := Lib.hid (HB1.out.trans (HW.out.mono HB1.out.size))
    by_cases hlt : k < m
    · obtain ⟨ta, tc, rfl⟩ := HT.out.shape
      have HTR := Lib.hid (show wr.ownsRow (w1.heap.size + 1) 3 1 (.slice ta k tc) k (vals ts) by have q := HT.out; unfold Own at q; rw [HTL.out] at q; exact q)
      rw [HTL.out]
      have w3 : wrap64 ((k : Int) + 3) = (k : Int) + 3 := IntWalk.wrap64_in _ (by omega)
      have lx := lt_of HBX.out
      go_wp2_with (first | (go_at_call 38; refine (AT.out _ HB.out ((k : Int) + 3) (by omega) (by omega)).mono ?_; rintro e w' ⟨r, rfl, r0, r1, rfl⟩; have m0 := Int.emod_nonneg r (show (8 : Int) ≠ 0 by omega); have m1 := Int.emod_lt_of_pos r (show (0 : Int) < 8 by omega)) | (at_builtin; refine wpList_append_own_at _ rfl _ _ 33 rfl (w1.heap.size + 1) 3 i0 (.int .i64 0) 1 8 Try.underlying33 hi hz0 hz1 hz2 rfl (by decide) _ k (vals ts) rfl (World.ownsRow.alloc HTR.out _) ⟨wr.heap.size, 0, none⟩ 1 1 [.int .i64 (r % 8)] rfl rfl (one_src _ _) (one_one _) ?c3 ?c4 ?c5 ?_))
      case c3 => unfold maxLen; omega
      case c4 => omega
      case c5 => simp; omega
      intro v' w5 hown hgrow _ _
      have hsw := HB.out.size
      have R := app_rel (B := w1.heap.size) (L := ts) HW.out (by omega) (by omega) HT.out (by rw [HTL.out]; exact hown) (by rw [HTL.out]; exact hgrow)
      have HT5 := Lib.hid R.1
      have HW5 := Lib.hid R.2
      have HBX5 := Lib.hid (show w5.heap[w1.heap.size]? = some (.cells #[.int .i64 nn, .slice ga m gc] 29) by
        rw [hgrow.block w1.heap.size (by simp; omega) (fun e => by have := (World.ownsRow.lt HTR.out _ e.symm).1; omega)]
        exact (Below.heap_alloc _ _ _ lx).trans HBX.out)
      have HTX5 := Lib.hid (show ∀ x ∈ ts ++ [r % 8], 0 ≤ x ∧ x ≤ 7 by
        intro x hx
        rw [List.mem_append] at hx
        rcases hx with q | q
        · exact HTX.out x q
        · simp at q; omega)
      clear hown hgrow R
      go_wp2_with fail
      go_roundw
      case rel => exact ⟨k + 1, ts ++ [r % 8], by omega, by go_num, HT5, Lib.hid (by rw [List.length_append, HTL.out]; rfl), HTX5, HBX5, HW5⟩
      case measure => simp [intOf]; omega
    · have hkm : m = k := by omega
      subst hkm
      obtain ⟨ta, tc, rfl⟩ := HT.out.shape
      rw [HTL.out] at HT ⊢
      have hm5 : m ≤ 5 := he
      have HMT := Lib.hid (show ∀ i, i < ts.length → ts.getD i 0 ≤ 900000 from fun i hi => by
        have := HTX.out (ts.getD i 0) (by rw [show ts.getD i 0 = ts[i]'hi by simp [List.getD, hi]]; exact List.getElem_mem _)
        omega)
      go_wp2_with fail
      go_loopw [6] (fun i wr => ∃ j : Nat, j ≤ nn ∧ i = .int .i64 j ∧ Hid (Own (w1.heap.size + 1) wr (.slice ta m tc) ts) ∧ Hid (wr.heap[w1.heap.size]? = some (.cells #[.int .i64 nn, .slice ga m gc] 29)) ∧ Hid (Below w1.heap.size w1 wr)) (fun i _ => nn - (intOf i).toNat)
      case atStart => exact ⟨0, Nat.zero_le _, rfl, HT, HBX, HW⟩
      case round =>
        clear HT HBX HW HB
        obtain ⟨j, hj2, rfl, HT, HBX, HW⟩ := hrel
        obtain ⟨g0, g1⟩ := cells2 HBX.out
        have lg := lt_of HBX.out
        by_cases hjn : j < nn
        · go_wp2_with fail
          go_loopw [7] (fun i wr => ∃ k : Nat, k ≤ j ∧ i = .int .i64 k ∧ Hid (Own (w1.heap.size + 1) wr (.slice ta m tc) ts) ∧ Hid (wr.heap[w1.heap.size]? = some (.cells #[.int .i64 nn, .slice ga m gc] 29)) ∧ Hid (Below w1.heap.size w1 wr)) (fun i _ => j - (intOf i).toNat)
          case atStart => exact ⟨0, Nat.zero_le _, rfl, HT, HBX, HW⟩
          case round =>
            clear HT HBX HW g0 g1 lg
            obtain ⟨k, hk2, rfl, HT, HBX, HW⟩ := hrel
            by_cases hkj : k < j
            · obtain ⟨g0, g1⟩ := cells2 HBX.out
              have lg := lt_of HBX.out
              obtain ⟨A, hA⟩ : ∃ A, A = fireNodeR0 ⟨(nn : Int), es⟩ ts (j : Int) := ⟨_, rfl⟩
              obtain ⟨B, hB⟩ : ∃ A, A = fireNodeR0 ⟨(nn : Int), es⟩ ts (k : Int) := ⟨_, rfl⟩
              have HA := Lib.hid hA
              have HBB := Lib.hid hB
              clear hA hB
              cases q1 : okF ⟨(nn : Int), es⟩ ts (j : Int) with
              | false =>
                have HQ1 := Lib.hid q1
                clear q1
                cases q2 : okF ⟨(nn : Int), es⟩ ts (k : Int) with
                | false =>
                  have HQ2 := Lib.hid q2
                  clear q2
                  go_wp2_with (go_at_call 21; first | (refine (ifn_w _ ⟨(nn : Int), es⟩ _ ts (k : Int) _ (HG1.out.below HW1.out) HT1.out.sl (wf_lit ⟨by omega, by omega⟩)).mono ?_; rintro e w12 ⟨v2, rfl, ov, hb⟩; rw [HQ2.out]; rw [← HBB.out] at ov; have HW2 := Lib.hid (HW1.out.trans (hb.mono HW1.out.size)); have HBX2 := Lib.hid (blk_in HBX1.out hb); have HT2 := Lib.hid (HT1.out.below hb); have HVA := Lib.hid (HV1.out.below hb); obtain ⟨a2, c2, rfl⟩ := ov.1.shape; have HV2 := Lib.hid ov.1; clear ov hb g0 g1 lg; obtain ⟨g0, g1⟩ := cells2 HBX2.out; have lg := lt_of HBX2.out) | (refine (ifn_w _ ⟨(nn : Int), es⟩ _ ts (j : Int) _ (HG1.out.below HW.out) HT.out.sl (wf_lit ⟨by omega, by omega⟩)).mono ?_; rintro e w11 ⟨v1, rfl, ov, hb⟩; rw [HQ1.out]; rw [← HA.out] at ov; have HW1 := Lib.hid (HW.out.trans (hb.mono HW.out.size)); have HBX1 := Lib.hid (blk_in HBX.out hb); have HT1 := Lib.hid (HT.out.below hb); obtain ⟨a1, c1, rfl⟩ := ov.1.shape; have HV1 := Lib.hid ov.1; clear ov hb g0 g1 lg; obtain ⟨g0, g1⟩ := cells2 HBX1.out; have lg := lt_of HBX1.out))
                  go_roundw
                  case rel => exact ⟨k + 1, by omega, by go_num, HT2, HBX2, HW2⟩
                  case measure => simp [intOf]; omega
                | true =>
                  have HQ2 := Lib.hid q2
                  clear q2
                  go_wp2_with (go_at_call 21; first | (refine (ifn_w _ ⟨(nn : Int), es⟩ _ ts (k : Int) _ (HG1.out.below HW1.out) HT1.out.sl (wf_lit ⟨by omega, by omega⟩)).mono ?_; rintro e w12 ⟨v2, rfl, ov, hb⟩; rw [HQ2.out]; rw [← HBB.out] at ov; have HW2 := Lib.hid (HW1.out.trans (hb.mono HW1.out.size)); have HBX2 := Lib.hid (blk_in HBX1.out hb); have HT2 := Lib.hid (HT1.out.below hb); have HVA := Lib.hid (HV1.out.below hb); obtain ⟨a2, c2, rfl⟩ := ov.1.shape; have HV2 := Lib.hid ov.1; clear ov hb g0 g1 lg; obtain ⟨g0, g1⟩ := cells2 HBX2.out; have lg := lt_of HBX2.out) | (refine (ifn_w _ ⟨(nn : Int), es⟩ _ ts (j : Int) _ (HG1.out.below HW.out) HT.out.sl (wf_lit ⟨by omega, by omega⟩)).mono ?_; rintro e w11 ⟨v1, rfl, ov, hb⟩; rw [HQ1.out]; rw [← HA.out] at ov; have HW1 := Lib.hid (HW.out.trans (hb.mono HW.out.size)); have HBX1 := Lib.hid (blk_in HBX.out hb); have HT1 := Lib.hid (HT.out.below hb); obtain ⟨a1, c1, rfl⟩ := ov.1.shape; have HV1 := Lib.hid ov.1; clear ov hb g0 g1 lg; obtain ⟨g0, g1⟩ := cells2 HBX1.out; have lg := lt_of HBX1.out))
                  go_roundw
                  case rel => exact ⟨k + 1, by omega, by go_num, HT2, HBX2, HW2⟩
                  case measure => simp [intOf]; omega
              | true =>
                have HQ1 := Lib.hid q1
                clear q1
                cases q2 : okF ⟨(nn : Int), es⟩ ts (k : Int) with
                | false =>
                  have HQ2 := Lib.hid q2
                  clear q2
                  go_wp2_with (go_at_call 21; first | (refine (ifn_w _ ⟨(nn : Int), es⟩ _ ts (k : Int) _ (HG1.out.below HW1.out) HT1.out.sl (wf_lit ⟨by omega, by omega⟩)).mono ?_; rintro e w12 ⟨v2, rfl, ov, hb⟩; rw [HQ2.out]; rw [← HBB.out] at ov; have HW2 := Lib.hid (HW1.out.trans (hb.mono HW1.out.size)); have HBX2 := Lib.hid (blk_in HBX1.out hb); have HT2 := Lib.hid (HT1.out.below hb); have HVA := Lib.hid (HV1.out.below hb); obtain ⟨a2, c2, rfl⟩ := ov.1.shape; have HV2 := Lib.hid ov.1; clear ov hb g0 g1 lg; obtain ⟨g0, g1⟩ := cells2 HBX2.out; have lg := lt_of HBX2.out) | (refine (ifn_w _ ⟨(nn : Int), es⟩ _ ts (j : Int) _ (HG1.out.below HW.out) HT.out.sl (wf_lit ⟨by omega, by omega⟩)).mono ?_; rintro e w11 ⟨v1, rfl, ov, hb⟩; rw [HQ1.out]; rw [← HA.out] at ov; have HW1 := Lib.hid (HW.out.trans (hb.mono HW.out.size)); have HBX1 := Lib.hid (blk_in HBX.out hb); have HT1 := Lib.hid (HT.out.below hb); obtain ⟨a1, c1, rfl⟩ := ov.1.shape; have HV1 := Lib.hid ov.1; clear ov hb g0 g1 lg; obtain ⟨g0, g1⟩ := cells2 HBX1.out; have lg := lt_of HBX1.out))
                  go_roundw
                  case rel => exact ⟨k + 1, by omega, by go_num, HT2, HBX2, HW2⟩
                  case measure => simp [intOf]; omega
                | true =>
                  have HQ2 := Lib.hid q2
                  clear q2
                  have hne : (j : Int) ≠ (k : Int) := by omega
                  have eA : A = fireL es (j : Int) ts := HA.out.trans (fireNodeR0_yes HQ1.out)
                  have eB : B = fireL es (k : Int) ts := HBB.out.trans (fireNodeR0_yes HQ2.out)
                  have HQ3 := Lib.hid (show okF ⟨(nn : Int), es⟩ A (k : Int) = true by rw [eA]; exact fire_can (g := ⟨(nn : Int), es⟩) HQ1.out HQ2.out hne HMT.out)
                  have HQ4 := Lib.hid (show okF ⟨(nn : Int), es⟩ B (j : Int) = true by rw [eB]; exact fire_can (g := ⟨(nn : Int), es⟩) HQ2.out HQ1.out (Ne.symm hne) HMT.out)
                  obtain ⟨X, hX⟩ : ∃ A', A' = fireNodeR0 ⟨(nn : Int), es⟩ A (k : Int) := ⟨_, rfl⟩
                  have HX := Lib.hid hX
                  have HY := Lib.hid (show fireNodeR0 ⟨(nn : Int), es⟩ B (j : Int) = X by
                    rw [fireNodeR0_yes HQ4.out, hX, fireNodeR0_yes HQ3.out, eA, eB]
                    exact (fire_comm es (j : Int) (k : Int) ts).symm)
                  clear hX eA eB hne
                  go_wp2_with (first | (go_at_call 21; first | (refine (ifn_w _ ⟨(nn : Int), es⟩ _ B (j : Int) _ (HG1.out.below HW3.out) HVB.out.sl (wf_lit ⟨by omega, by omega⟩)).mono ?_; rintro e w14 ⟨v4, rfl, ov, hb⟩; rw [HQ4.out]; rw [HY.out] at ov; have HW4 := Lib.hid (HW3.out.trans (hb.mono HW3.out.size)); have HBX4 := Lib.hid (blk_in HBX3.out hb); have HT4 := Lib.hid (HT3.out.below hb); have HVX := Lib.hid (HV3.out.below hb); obtain ⟨a4, c4, rfl⟩ := ov.1.shape; have HV4 := Lib.hid ov.1; clear ov hb g0 g1 lg; obtain ⟨g0, g1⟩ := cells2 HBX4.out; have lg := lt_of HBX4.out) | (refine (ifn_w _ ⟨(nn : Int), es⟩ _ A (k : Int) _ (HG1.out.below HW2.out) HVA.out.sl (wf_lit ⟨by omega, by omega⟩)).mono ?_; rintro e w13 ⟨v3, rfl, ov, hb⟩; rw [HQ3.out]; rw [← HX.out] at ov; have HW3 := Lib.hid (HW2.out.trans (hb.mono HW2.out.size)); have HBX3 := Lib.hid (blk_in HBX2.out hb); have HT3 := Lib.hid (HT2.out.below hb); have HVB := Lib.hid (HV2.out.below hb); obtain ⟨a3, c3, rfl⟩ := ov.1.shape; have HV3 := Lib.hid ov.1; clear ov hb g0 g1 lg; obtain ⟨g0, g1⟩ := cells2 HBX3.out; have lg := lt_of HBX3.out) | (refine (ifn_w _ ⟨(nn : Int), es⟩ _ ts (k : Int) _ (HG1.out.below HW1.out) HT1.out.sl (wf_lit ⟨by omega, by omega⟩)).mono ?_; rintro e w12 ⟨v2, rfl, ov, hb⟩; rw [HQ2.out]; rw [← HBB.out] at ov; have HW2 := Lib.hid (HW1.out.trans (hb.mono HW1.out.size)); have HBX2 := Lib.hid (blk_in HBX1.out hb); have HT2 := Lib.hid (HT1.out.below hb); have HVA := Lib.hid (HV1.out.below hb); obtain ⟨a2, c2, rfl⟩ := ov.1.shape; have HV2 := Lib.hid ov.1; clear ov hb g0 g1 lg; obtain ⟨g0, g1⟩ := cells2 HBX2.out; have lg := lt_of HBX2.out) | (refine (ifn_w _ ⟨(nn : Int), es⟩ _ ts (j : Int) _ (HG1.out.below HW.out) HT.out.sl (wf_lit ⟨by omega, by omega⟩)).mono ?_; rintro e w11 ⟨v1, rfl, ov, hb⟩; rw [HQ1.out]; rw [← HA.out] at ov; have HW1 := Lib.hid (HW.out.trans (hb.mono HW.out.size)); have HBX1 := Lib.hid (blk_in HBX.out hb); have HT1 := Lib.hid (HT.out.below hb); obtain ⟨a1, c1, rfl⟩ := ov.1.shape; have HV1 := Lib.hid ov.1; clear ov hb g0 g1 lg; obtain ⟨g0, g1⟩ := cells2 HBX1.out; have lg := lt_of HBX1.out)) | (go_at_call 39; refine (ints_ok _ _ X _ HVX.out.sl HV4.out.sl).mono ?_; rintro e w15 ⟨rfl, hb⟩; have HW5 := Lib.hid (HW4.out.trans (hb.mono HW4.out.size)); have HBX5 := Lib.hid (blk_in HBX4.out hb); have HT5 := Lib.hid (HT4.out.below hb); clear hb))
                  go_roundw
                  case rel => exact ⟨k + 1, by omega, by go_num, HT5, HBX5, HW5⟩
                  case measure => simp [intOf]; omega
            · go_wp2_with fail
              go_roundw
              case rel => exact ⟨j + 1, by omega, by go_num, HT, HBX, HW⟩
              case measure => simp [intOf]; omega
        · have hwl := lt_of HBX.out
          have hl0 := lit0 wr
          have hbw := HW.out.al (.cells #[] 3)
          have HL0 := Lib.hid (show Own wr.heap.size (wr.alloc (.cells #[] 3)) (.slice (some ⟨wr.heap.size, 0, none⟩) 0 0) [] from hl0)
          have HWL := Lib.hid hbw
          clear hl0 hbw
          go_wp2_with fail
          go_loopw [16, 17] (fun u i wr => ∃ (k : Nat) (ls : List Int), k ≤ 255 ∧ i = .int .i64 k ∧ Hid (Own (w1.heap.size + 1) wr u ls) ∧ Hid (ls.length = k) ∧ Hid (Below w1.heap.size w1 wr) ∧ Hid (w1.heap.size + 1 ≤ wr.heap.size)) (fun _ i _ => 255 - (intOf i).toNat)
          case atStart => exact ⟨0, [], Nat.zero_le _, rfl, Lib.hid (HL0.out.mono (by omega)), Lib.hid rfl, HWL, Lib.hid (by simp; omega)⟩
          case round =>
            clear HL0 HWL HT HBX HW hwl g0 g1 lg
            obtain ⟨k, ls, hk2, rfl, HLS, HLL, HW, HWS⟩ := hrel
            have HB := Lib.hid (HB1.out.trans (HW.out.mono HB1.out.size))
            obtain ⟨la, lc, rfl⟩ := HLS.out.shape
            rw [HLL.out]
            have HLR := Lib.hid (show wr.ownsRow (w1.heap.size + 1) 3 1 (.slice la k lc) k (vals ls) by have q := HLS.out; unfold Own at q; rw [HLL.out] at q; exact q)
            have hsw := HW.out.size
            go_wp2_with fail
            go_at_call 38
            refine (AT.out _ HB.out 1 (by omega) (by omega)).mono ?_
            rintro e w' ⟨r, rfl, r0, r1, rfl⟩
            by_cases hkr : (k : Int) < r
            · have dk : decide ((k : Int) < r) = true := decide_eq_true hkr
              have hk5 : k < 255 := by omega
              go_wp2_with (first | (go_at_call 38; refine (AT.out _ HB.out _ (by omega) (by omega)).mono ?_; rintro e w' ⟨r2, rfl, r20, r21, rfl⟩; have m0 := Int.emod_nonneg r2 (show (3 : Int) ≠ 0 by omega); have m1 := Int.emod_lt_of_pos r2 (show (0 : Int) < 3 by omega)) | (at_builtin; refine wpList_append_own_at _ rfl _ _ 33 rfl (w1.heap.size + 1) 3 i0 (.int .i64 0) 1 8 Try.underlying33 hi hz0 hz1 hz2 rfl (by decide) _ k (vals ls) rfl (World.ownsRow.alloc HLR.out _) ⟨wr.heap.size, 0, none⟩ 1 1 [.int .i64 (r2 % 3)] rfl rfl (one_src _ _) (one_one _) ?c3 ?c4 ?c5 ?_))
              case c3 => unfold maxLen; omega
              case c4 => omega
              case c5 => have := (World.ownsRow.lt HLR.out); have := HWS.out; simp; omega
              intro v' w5 hown hgrow _ _
              have R := app_rel (B := w1.heap.size) (L := ls) HW.out (by omega) (by omega) HLS.out (by rw [HLL.out]; exact hown) (by rw [HLL.out]; exact hgrow)
              have HLS5 := Lib.hid R.1
              have HW5 := Lib.hid R.2
              have HWS5 := Lib.hid (show w1.heap.size + 1 ≤ w5.heap.size by have q := hgrow.size; simp at q; have := HWS.out; omega)
              clear hown hgrow R
              go_wp2_with fail
              go_roundw
              case rel => exact ⟨k + 1, ls ++ [r2 % 3], by omega, by go_num, HLS5, Lib.hid (by rw [List.length_append, HLL.out]; rfl), HW5, HWS5⟩
              case measure => simp [intOf]; omega
            · have dk : decide ((k : Int) < r) = false := decide_eq_false hkr
              have HLB := Lib.hid (show ls.length ≤ 255 by rw [HLL.out]; exact hk2)
              obtain ⟨CL, hCL⟩ : ∃ C, C = comp ls := ⟨_, rfl⟩
              obtain ⟨ln, hln⟩ : ∃ z, z = CL.length := ⟨_, rfl⟩
              have HCL := Lib.hid hCL
              have HLN := Lib.hid hln
              have HEX := Lib.hid (show expL CL = some ls by rw [hCL]; exact exp_comp ls (by have := HLB.out; omega))
              have hlnb : ln ≤ 255 := by have := comp_len ls; have := HLB.out; rw [hln, hCL]; omega
              have HL255 := Lib.hid hlnb
              clear hCL hln hlnb
              go_wp2_with (first | (go_at_call 29; refine (icomp_w _ ls _ (show Sl wr (.slice la k lc) ls by have q := HLS.out.sl; rw [HLL.out] at q; exact q) (by have := HLB.out; omega)).mono ?_; rintro e w21 ⟨lv, rfl, ol, hb⟩; rw [← HCL.out] at ol; have HW21 := Lib.hid (HW.out.trans (hb.mono HW.out.size)); have HLS21 := Lib.hid (HLS.out.below hb); obtain ⟨xa, xc, rfl⟩ := ol.shape; have HO21 := Lib.hid ol.v; rw [← HLN.out] at HO21 ⊢; clear ol hb) | (go_at_call 36; refine (iexp_w _ CL _ HO21.out).mono ?_; rintro e w22 ⟨bv, rfl, ob, hb⟩; rw [expOk_yes HEX.out]; rw [expR_yes HEX.out] at ob; have HW22 := Lib.hid (HW21.out.trans (hb.mono HW21.out.size)); have HLS22 := Lib.hid (HLS21.out.below hb).sl; have HO22 := Lib.hid (HO21.out.below hb); obtain ⟨ya, yc, rfl⟩ := ob.shape; have HBK22 := Lib.hid ob.v; rw [HLL.out] at HBK22 ⊢; clear ob hb))
              go_loopw [21] (fun i wr => ∃ k3 : Nat, (1 ≤ k3 ∧ k3 ≤ 300) ∧ i = .int .i64 k3 ∧ Hid (SlLo wr (.slice xa ln xc) CL) ∧ Hid (Sl wr (.slice ya k yc) ls) ∧ Hid (Sl wr (.slice la k lc) ls) ∧ Hid (Below w1.heap.size w1 wr)) (fun i _ => 300 - (intOf i).toNat)
              case atStart => exact ⟨1, by omega, rfl, HO22, HBK22, Lib.hid (by have q := HLS22.out; rw [HLL.out] at q; exact q), HW22⟩
              case round =>
                clear HO22 HBK22 HLS22 HW22
                obtain ⟨k3, ⟨hk31, hk32⟩, rfl, HO, HBK, HLS, HW⟩ := hrel
                have hl255 := HL255.out
                by_cases hkl : k3 < ln
                · obtain ⟨x, hx⟩ : ∃ x, CL[k3]? = some x := ⟨_, List.getElem?_eq_getElem (by rw [← HLN.out]; exact hkl)⟩
                  obtain ⟨y, hy⟩ : ∃ x, CL[k3 - 1]? = some x := ⟨_, List.getElem?_eq_getElem (by rw [← HLN.out]; omega)⟩
                  have hxy : x.nd ≠ y.nd := comp_ne ls (k3 - 1) y x (by rw [← HCL.out]; exact hy) (by rw [← HCL.out, show k3 - 1 + 1 = k3 by omega]; exact hx)
                  have d2 : (x.nd == y.nd) = false := by rw [beq_eq_false_iff_ne]; exact hxy
                  have hcx : ∃ xb off, xa = some ⟨xb, off, none⟩ ∧ xb < wr.heap.size ∧ wr.cell? ⟨xb, off + k3 * 2, none⟩ = some (.int .i64 x.nd) ∧ wr.cell? ⟨xb, off + (k3 - 1) * 2, none⟩ = some (.int .i64 y.nd) := by
                    obtain ⟨a', c', e', _, _, _, q⟩ := HO.out
                    simp only [Value.slice.injEq] at e'
                    rcases q with q | ⟨xb, off, q1, q2, q3⟩
                    · rw [q] at hx; simp at hx
                    · exact ⟨xb, off, by rw [e'.1]; exact q1, q2, (q3 k3 x hx).1, (q3 (k3 - 1) y hy).1⟩
                  obtain ⟨xb, off, rfl, hxl, hc1, hc2⟩ := hcx
                  have wk1 : IntKind.i64.wrap ((k3 : Int) - 1) = (k3 : Int) - 1 := IntWalk.i64_in _ (by omega)
                  have wk2 : wrap64 ((k3 : Int) - 1) = (k3 : Int) - 1 := IntWalk.wrap64_in _ (by omega)
                  have wk3 : 0 ≤ (k3 : Int) - 1 := by omega
                  have wk4 : ((k3 : Int) - 1).toNat = k3 - 1 := by omega
                  have wk5 : (k3 : Int) - 1 < (ln : Int) := by omega
                  have wk6 : k3 - 1 < ln := by omega
                  clear hx hy hxy
                  go_wp2_with fail
                  go_quiet (fail)
                  all_goals
                    go_wp2_with fail
                    go_roundw
                    case rel => exact ⟨k3 + 1, by omega, by go_num, (by first | exact HO | exact Lib.hid (HO.out.below (Below.toDraw (Below.refl _ _) _))), (by first | exact HBK | exact Lib.hid (HBK.out.below (Below.toDraw (Below.refl _ _) _))), (by first | exact HLS | exact Lib.hid (HLS.out.below (Below.toDraw (Below.refl _ _) _))), (by first | exact HW | exact Lib.hid (Below.toDraw HW.out _))⟩
                    case measure => simp [intOf]; omega
                · go_wp2_with (go_at_call 39; refine (ints_ok _ _ ls _ HBK.out HLS.out).mono ?_; rintro e w25 ⟨rfl, hb⟩; have HW25 := Lib.hid (HB1.out.trans ((HW.out.trans (hb.mono HW.out.size)).mono HB1.out.size)); clear hb)
                  go_ret
                  exact ⟨rfl, HW25.out⟩

end Go.Proofs.Ytokhdnejaecejaa
