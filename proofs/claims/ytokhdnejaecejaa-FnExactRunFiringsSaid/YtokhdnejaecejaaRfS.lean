/-
  What the model's RunFirings answers. No statement of the seat is proved here.
-/
import Derived.Test.YtokhdnejaecejaaRfI
namespace Go.Proofs.Ytokhdnejaecejaa
open Go.RowKit

set_option maxRecDepth 100000 in
set_option maxHeartbeats 16000000 in
theorem srun_w (v : Value) (g : Grf) (u : Value) (ks : List Int) (w : World) (h : GrV w v g) (hu : Sl w u ks) :
    Calls Try.prog 26 #[v, u] w fun e w' => ∃ v0 v1, e = .returned (.tuple #[v0, v1, .bool (okRun g ks)]) ∧ TwoH w.heap.size w'.heap.size w' v0 v1 (runT g ks) (runP g ks) ∧ Below w.heap.size w w' := by
  have HV := Lib.hid h
  have HU := Lib.hid hu
  obtain ⟨c, rfl, hc⟩ := h
  obtain ⟨n, es⟩ := g
  simp only [] at hc HV ⊢
  have HC := Lib.hid hc
  obtain ⟨a, cap, rfl, _, _, _, _⟩ := hc
  obtain ⟨ua, uc, rfl, _, hum, _, hrest⟩ := hu
  have htm : ks.length ≤ 9223372036854775807 := by unfold maxLen at hum; omega
  obtain ⟨m, hmm⟩ : ∃ m, m = es.length := ⟨_, rfl⟩
  obtain ⟨kl, hkl⟩ : ∃ m, m = ks.length := ⟨_, rfl⟩
  rw [← hkl] at HU htm ⊢
  rw [← hmm] at HV HC ⊢
  have HM := Lib.hid hmm
  have HKL := Lib.hid hkl
  obtain ⟨ok, hok⟩ : ∃ b, b = okRun ⟨n, es⟩ ks := ⟨_, rfl⟩
  obtain ⟨RT, hRT⟩ : ∃ R, R = runT ⟨n, es⟩ ks := ⟨_, rfl⟩
  obtain ⟨RP, hRP⟩ : ∃ R, R = runP ⟨n, es⟩ ks := ⟨_, rfl⟩
  rw [← hok, ← hRT, ← hRP]
  have HOF := Lib.hid hok
  have HRT := Lib.hid hRT
  have HRP := Lib.hid hRP
  have HNO := Lib.hid (show okRun ⟨n, es⟩ ks = false → ok = false ∧ RT = [] ∧ RP = [] from fun q => ⟨by rw [hok, q], by rw [hRT, runT_no q], by rw [hRP, runP_no q]⟩)
  have HNIL := Lib.hid (fun (W : World) => (show TwoH w.heap.size W.heap.size W (.slice none 0 0) (.slice none 0 0) [] [] from ⟨OwnH.of (own_nil _ _), OwnH.of (own_nil _ _), .inl rfl⟩))
  have hb := Lib.hid ((Below.refl w.heap.size w).al (.cells #[.int .i64 n, .slice a m cap] 29))
  have hH := Lib.hid (hp1 w (.cells #[.int .i64 n, .slice a m cap] 29))
  clear hmm hkl hok hRT hRP hum
  go_enter Try.func26, Try.ntmps26
  cases q0 : okG ⟨n, es⟩ with
  | false =>
    have HQ := Lib.hid q0
    clear q0
    go_wp2_with (go_at_call 15; refine (sisg_any _ ⟨n, es⟩ _ (HV.out.below hb.out)).mono ?_; rintro e w1 ⟨rfl, hb1⟩; rw [HQ.out]; have HB1 := Lib.hid (hb.out.trans (hb1.mono hb.out.size)); clear hb1)
    go_ret3
    obtain ⟨rfl, rfl, rfl⟩ := HNO.out (okRun_no1 HQ.out)
    exact ⟨_, _, rfl, HNIL.out _, HB1.out⟩
  | true =>
    have GD := Lib.hid (okG_iff.1 q0)
    have hm16 : m ≤ 16 := by rw [HM.out]; exact GD.out.len
    have hnn : 0 ≤ n ∧ n ≤ 8 := GD.out.nodes
    have HQ := Lib.hid q0
    clear q0
    by_cases ql : kl ≤ 1600
    case neg =>
      have d1 : decide ((kl : Int) > 1600) = true := decide_eq_true (by omega)
      have d1' : decide (1600 < (kl : Int)) = true := decide_eq_true (by omega)
      have HQL := Lib.hid ql
      clear ql
      go_wp2_with (go_at_call 15; refine (sisg_any _ ⟨n, es⟩ _ (HV.out.below hb.out)).mono ?_; rintro e w1 ⟨rfl, hb1⟩; rw [HQ.out]; have HB1 := Lib.hid (hb.out.trans (hb1.mono hb.out.size)); clear hb1)
      go_ret3
      obtain ⟨rfl, rfl, rfl⟩ := HNO.out (okRun_no2 (by rw [← HKL.out]; exact HQL.out))
      exact ⟨_, _, rfl, HNIL.out _, HB1.out⟩
    have d1 : decide ((kl : Int) > 1600) = false := decide_eq_false (by omega)
    have d1' : decide (1600 < (kl : Int)) = false := decide_eq_false (by omega)
    have HQL := Lib.hid ql
    have HGL := Lib.hid (show es.length ≤ 1000000 by have := GD.out.len; simp at this; omega)
    have wn : wrap64 (n - 1) = n - 1 := IntWalk.wrap64_in _ (by omega)
    clear ql
    go_wp2_with (first | (go_at_call 15; refine (sisg_any _ ⟨n, es⟩ _ (HV.out.below hb.out)).mono ?_; rintro e w1 ⟨rfl, hb1⟩; rw [HQ.out]; have HB1 := Lib.hid (hb.out.trans (hb1.mono hb.out.size)); have HG1 := Lib.hid (blk_in hH.out hb1); clear hb1; obtain ⟨g0, g1⟩ := cells2 HG1.out; have lg := lt_of HG1.out) | (go_at_call 64; first | (refine (stok0_any n _ es _ (HC.out.below HB2.out) HGL.out).mono ?_; rintro e w3 ⟨pv, rfl, op, hb3⟩; have HAP := Lib.hid (Apart.of_lt HT2.out op (Nat.le_refl _)).symm; have HPB := Lib.hid (show ∀ q, pv.ownBlock = some q → w.heap.size < q from fun q e => by have := (op.lt q e).1; have := lt_of HG2.out; omega); have HB3 := Lib.hid (HB2.out.trans (hb3.mono HB2.out.size)); have HG3 := Lib.hid (blk_in HG2.out hb3); have HT3 := Lib.hid (HT2.out.below hb3); have HP3 := Lib.hid (op.mono (lo' := w.heap.size) HB2.out.size); obtain ⟨pa, pc, rfl⟩ := op.shape; rw [tok0_len, ← HM.out] at HP3 HAP HPB ⊢; clear op hb3 g0 g1 lg) | (refine (stok0_any n _ es _ (HC.out.below HB1.out) HGL.out).mono ?_; rintro e w2 ⟨tv, rfl, ot, hb2⟩; have HB2 := Lib.hid (HB1.out.trans (hb2.mono HB1.out.size)); have HG2 := Lib.hid (blk_in HG1.out hb2); have HT2 := Lib.hid (ot.mono (lo' := w.heap.size) HB1.out.size); obtain ⟨ta, tc, rfl⟩ := ot.shape; rw [tok0_len, ← HM.out] at HT2 ⊢; clear g0 g1 lg ot hb2; obtain ⟨g0, g1⟩ := cells2 HG2.out; have lg := lt_of HG2.out)))
    go_loopw [7, 29] (fun tv i wr => ∃ (j : Nat) (T P : List Int), j ≤ kl ∧ i = .int .i64 j ∧ Hid (runR ⟨n, es⟩ (ks.take j) = some (T, P)) ∧ Hid (RunI es T P (50 + 5 * (j : Int))) ∧ Hid (Own w.heap.size wr tv T) ∧ Hid (Own w.heap.size wr (.slice pa m pc) P) ∧ Hid (Apart (.slice pa m pc) tv) ∧ Hid (wr.heap[w.heap.size]? = some (.cells #[.int .i64 n, .slice a m cap] 29)) ∧ Hid (Below w.heap.size w wr)) (fun _ i _ => kl - (intOf i).toNat)
    case atStart => exact ⟨0, tok0 es, tok0 es, Nat.zero_le _, rfl, Lib.hid rfl, Lib.hid (runI_zero (g := ⟨n, es⟩) GD.out), HT3, HP3, HAP, HG3, HB3⟩
    case round =>
      clear HT3 HP3 HG3 HB3 HT2 HAP
      obtain ⟨j, T, P, hj, rfl, HRR, HRI, HT, HP, HAP, HG, HB⟩ := hrel
      by_cases hlt : j < kl
      · have HJL := Lib.hid (show j < ks.length by rw [← HKL.out]; exact hlt)
        rcases hrest with rfl | ⟨b, off, rfl, hbl, hcell⟩
        · exact absurd HJL.out (by simp)
        · obtain ⟨k, hk⟩ : ∃ k, ks[j]? = some k := ⟨_, List.getElem?_eq_getElem HJL.out⟩
          have hck := (HB.out.cell (p := ⟨b, off + j, none⟩) hbl).trans (hcell j HJL.out)
          rw [show ks.getD j 0 = k by simp [List.getD, hk]] at hck
          have HKS := Lib.hid hk
          have HTL := Lib.hid (show T.length = es.length from HRI.out.tl)
          have HPL := Lib.hid (show P.length = m by rw [HRI.out.pl]; exact HM.out.symm)
          have HBD := Lib.hid (show ∀ i, i < T.length → -1000000000 ≤ T.getD i 0 ∧ T.getD i 0 ≤ 1000000000 from fun i hi => by have := HRI.out.tb i hi; have := HQL.out; omega)
          have hblr : b < wr.heap.size := Nat.lt_of_lt_of_le hbl HB.out.size
          obtain ⟨g0, g1⟩ := cells2 HG.out
          have lg := lt_of HG.out
          clear hk hcell
          obtain ⟨ta0, tc0, rfl⟩ := HT.out.shape
          cases q1 : inB 0 (n - 1) k with
          | false =>
            have HQ1 := Lib.hid q1
            clear q1
            go_wp2_with (go_at_call 54; refine (sin_any _ _ _ _).mono ?_; rintro e w' ⟨rfl, rfl⟩; rw [HQ1.out])
            go_ret3
            obtain ⟨rfl, rfl, rfl⟩ := HNO.out (okRun_no3 (runR_fail (j := j + 1) (by rw [runR_take HKS.out, HRR.out]; exact stepR_no (by rw [HQ1.out]; rfl))))
            exact ⟨_, _, rfl, HNIL.out _, HB.out⟩
          | true =>
            have HQ1 := Lib.hid q1
            clear q1
            cases q2 : canL es k T with
            | false =>
              have HQ2 := Lib.hid q2
              clear q2
              go_wp2_with (first | (go_at_call 54; refine (sin_any _ _ _ _).mono ?_; rintro e w' ⟨rfl, rfl⟩; rw [HQ1.out]) | (go_at_call 58; refine (sfire_any n _ es _ T k _ (HC.out.below HB.out) GD.out HT.out.sl HTL.out HBD.out).mono ?_; rintro e w5 ⟨ov, rfl, ol, hb5⟩; rw [HQ2.out]; rw [fireR_no HQ2.out] at ol; have HB5 := Lib.hid (HB.out.trans (hb5.mono HB.out.size)); obtain ⟨oa, oc, rfl⟩ := ol.shape; clear ol hb5 g0 g1 lg))
              go_ret3
              obtain ⟨rfl, rfl, rfl⟩ := HNO.out (okRun_no3 (runR_fail (j := j + 1) (by rw [runR_take HKS.out, HRR.out]; exact stepR_no (by rw [HQ1.out, HQ2.out]; rfl))))
              exact ⟨_, _, rfl, HNIL.out _, HB5.out⟩
            | true =>
              have HQ2 := Lib.hid (show (inB 0 (n - 1) k && canL es k T) = true by rw [HQ1.out, q2]; rfl)
              have HRI2 := Lib.hid (runI_step (g := ⟨n, es⟩) (k := k) GD.out HRI.out q2)
              have HQC := Lib.hid q2
              clear q2
              obtain ⟨T2, hT2⟩ : ∃ L, L = fireL es k T := ⟨_, rfl⟩
              have HT2E := Lib.hid hT2
              have HT2L := Lib.hid (show T2.length = m by rw [hT2, fireL_len, HTL.out]; exact HM.out.symm)
              have HR5 := Lib.hid (show RunI es T2 (maxL P T2) (50 + 5 * (j : Int) + 5) by rw [hT2]; exact HRI2.out)
              clear hT2
              go_wp2_with (first | (go_at_call 54; refine (sin_any _ _ _ _).mono ?_; rintro e w' ⟨rfl, rfl⟩; rw [HQ1.out]) | (go_at_call 58; refine (sfire_any n _ es _ T k _ (HC.out.below HB.out) GD.out HT.out.sl HTL.out HBD.out).mono ?_; rintro e w5 ⟨ov, rfl, ol, hb5⟩; rw [HQC.out]; rw [fireR_yes HQC.out, ← HT2E.out] at ol; have HAP5 := Lib.hid (Apart.of_lt HP.out ol (Nat.le_refl _)); have HB5 := Lib.hid (HB.out.trans (hb5.mono HB.out.size)); have HG5 := Lib.hid (blk_in HG.out hb5); have HP5 := Lib.hid (HP.out.below hb5); have HT5 := Lib.hid (ol.mono (lo' := w.heap.size) HB.out.size); obtain ⟨ta, tc, rfl⟩ := ol.shape; rw [HT2L.out] at HT5 HAP5 ⊢; clear ol hb5 g0 g1 lg HAP))
              have HAP := HAP5
              go_loopw [51] (fun i wr => ∃ z : Nat, z ≤ m ∧ i = .int .i64 z ∧ Hid (Own w.heap.size wr (.slice pa m pc) (maxT P T2 z)) ∧ Hid (Own w.heap.size wr (.slice ta m tc) T2) ∧ Hid (wr.heap[w.heap.size]? = some (.cells #[.int .i64 n, .slice a m cap] 29)) ∧ Hid (Below w.heap.size w wr)) (fun i _ => m - (intOf i).toNat)
              case atStart => exact ⟨0, Nat.zero_le _, rfl, Lib.hid (by rw [maxT_zero]; exact HP5.out), HT5, HG5, HB5⟩
              case round =>
                clear HP5 HT5 HG5 HB5
                obtain ⟨z, hz, rfl, HPZ, HTZ, HGZ, HBZ⟩ := hrel
                by_cases hlz : z < m
                · obtain ⟨tg, rfl⟩ : ∃ g, ta = some ⟨g, 0, none⟩ := by
                    rcases HTZ.out.2 with ⟨q, _⟩ | ⟨g, cap', cur, q, _⟩
                    · simp only [Value.slice.injEq] at q; omega
                    · simp only [Value.slice.injEq] at q; exact ⟨g, q.1⟩
                  obtain ⟨pg, rfl⟩ : ∃ g, pa = some ⟨g, 0, none⟩ := by
                    rcases HPZ.out.2 with ⟨q, _⟩ | ⟨g, cap', cur, q, _⟩
                    · simp only [Value.slice.injEq] at q; omega
                    · simp only [Value.slice.injEq] at q; exact ⟨g, q.1⟩
                  have htl : T2.length = m := by rw [HR5.out.tl]; exact HM.out.symm
                  have hpl : P.length = m := by rw [HPL.out]
                  have HTR := Lib.hid (show wr.ownsRow w.heap.size 3 1 (.slice (some ⟨tg, 0, none⟩) m tc) m (vals T2) by have q := HTZ.out; unfold Own at q; rw [htl] at q; exact q)
                  have HPR := Lib.hid (show wr.ownsRow w.heap.size 3 1 (.slice (some ⟨pg, 0, none⟩) m pc) m (vals (maxT P T2 z)) by have q := HPZ.out; unfold Own at q; rw [maxT_len, hpl] at q; exact q)
                  obtain ⟨t, htt⟩ : ∃ t, t = T2.getD z 0 := ⟨_, rfl⟩
                  obtain ⟨pv, hpv⟩ : ∃ t, t = P.getD z 0 := ⟨_, rfl⟩
                  have hct : wr.cell? ⟨tg, z, none⟩ = some (.int .i64 t) := by rw [HTR.out.cellAt z (by omega), vals_at (by omega), htt]
                  have hcp : wr.cell? ⟨pg, z, none⟩ = some (.int .i64 pv) := by rw [HPR.out.cellAt z (by omega), vals_at (by rw [maxT_len]; omega), maxT_at (by omega), if_neg (by omega), hpv]
                  have hft : tg < wr.heap.size := (World.ownsRow.lt HTR.out _ rfl).2
                  have hfp : pg < wr.heap.size := (World.ownsRow.lt HPR.out _ rfl).2
                  have hfz := HPR.out.frozenAt z
                  have hap : pg ≠ tg := by
                    rcases HAP.out with q | q
                    · simp [Value.ownBlock] at q
                    · intro e; exact q (by rw [e]; rfl)
                  have HAPN := Lib.hid hap
                  have HST := Lib.hid (maxT_set (ps := P) (ts := T2) (j := z) (by omega))
                  have HTT := Lib.hid htt
                  have HPV := Lib.hid hpv
                  have hpg0 : w.heap.size ≤ pg := (World.ownsRow.lt HPR.out _ rfl).1
                  have hpgw : w.heap.size < pg := HPB.out pg rfl
                  clear htl htt hpv hap
                  have fin := fun (v : Int) (hv : v = max pv t) => (show (wr.setCell ⟨pg, z, none⟩ (.int .i64 v)).ownsRow w.heap.size 3 1 (.slice (some ⟨pg, 0, none⟩) m pc) m (vals (maxT P T2 (z + 1))) by
                    have R := (HPR.out.stored z (.int .i64 v)).1
                    rw [vals_set, hv, HPV.out, HTT.out, HST.out] at R
                    rw [hv, HPV.out, HTT.out]
                    exact R)
                  have FIN := Lib.hid fin
                  clear fin
                  by_cases hgt : pv < t
                  · have hgt' : t > pv := hgt
                    have HMX := Lib.hid (show t = max pv t by omega)
                    go_wp2_with fail
                    go_roundw
                    case rel =>
                      refine ⟨z + 1, by omega, by go_num, Lib.hid ?q1, Lib.hid ?q2, Lib.hid ?q3, Lib.hid ?q4⟩
                      case q1 => have q := FIN.out t HMX.out; unfold Own; rw [maxT_len, hpl]; exact q
                      case q2 => exact HTZ.out.kept (u := .slice (some ⟨pg, 0, none⟩) m pc) (HPR.out.stored z (.int .i64 t)).2 (.inr (by simp only [Value.ownBlock]; intro e; injection e with e; exact HAPN.out e.symm))
                      case q3 => exact ((HPR.out.stored z (.int .i64 t)).2.block _ (lt_of HGZ.out) (by intro e; injection e with e; omega)).trans HGZ.out
                      case q4 => exact HBZ.out.setCell (p := ⟨pg, z, none⟩) hpg0 _
                    case measure => simp [intOf]; omega
                  · have hgt' : ¬ t > pv := hgt
                    have HMX := Lib.hid (show pv = max pv t by omega)
                    go_wp2_with fail
                    go_roundw
                    case rel =>
                      refine ⟨z + 1, by omega, by go_num, Lib.hid ?q1, Lib.hid ?q2, Lib.hid ?q3, Lib.hid ?q4⟩
                      case q1 => have q := FIN.out pv HMX.out; unfold Own; rw [maxT_len, hpl]; exact q
                      case q2 => exact HTZ.out.kept (u := .slice (some ⟨pg, 0, none⟩) m pc) (HPR.out.stored z (.int .i64 pv)).2 (.inr (by simp only [Value.ownBlock]; intro e; injection e with e; exact HAPN.out e.symm))
                      case q3 => exact ((HPR.out.stored z (.int .i64 pv)).2.block _ (lt_of HGZ.out) (by intro e; injection e with e; omega)).trans HGZ.out
                      case q4 => exact HBZ.out.setCell (p := ⟨pg, z, none⟩) hpg0 _
                    case measure => simp [intOf]; omega
                · have hpl : P.length = m := by rw [HPL.out]
                  have HPM := Lib.hid (show Own w.heap.size wr (.slice pa m pc) (maxL P T2) by have q := HPZ.out; rw [maxT_all (by rw [hpl]; exact hlz)] at q; exact q)
                  go_wp2_with fail
                  go_roundw
                  case rel => exact ⟨j + 1, T2, maxL P T2, by omega, by go_num, Lib.hid (by rw [runR_take HKS.out, HRR.out, HT2E.out]; exact stepR_yes HQ2.out), Lib.hid (by have q := HR5.out; rw [show ((50 : Int) + 5 * ((j + 1 : Nat) : Int)) = 50 + 5 * (j : Int) + 5 by omega]; exact q), HTZ, HPM, HAP, HGZ, HBZ⟩
                  case measure => simp [intOf]; omega
      · have e : ks.take j = ks := List.take_of_length_le (by rw [← HKL.out]; omega)
        rw [e] at HRR
        have H1 := Lib.hid (okRun_yes HQ.out (by rw [← HKL.out]; exact HQL.out) HRR.out)
        have H2 := Lib.hid (runT_yes HQ.out (by rw [← HKL.out]; exact HQL.out) HRR.out)
        have H3 := Lib.hid (runP_yes HQ.out (by rw [← HKL.out]; exact HQL.out) HRR.out)
        clear e
        obtain ⟨ta0, tc0, rfl⟩ := HT.out.shape
        go_wp2_with fail
        go_ret3
        refine ⟨.slice ta0 T.length tc0, .slice pa m pc, by rw [HOF.out, H1.out]; rfl, ?_, HB.out⟩
        rw [HRT.out, H2.out, HRP.out, H3.out]
        exact ⟨OwnH.of HT.out, OwnH.of HP.out, HAP.out.symm⟩

end Go.Proofs.Ytokhdnejaecejaa
