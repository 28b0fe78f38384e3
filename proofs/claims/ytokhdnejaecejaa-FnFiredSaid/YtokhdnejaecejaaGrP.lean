/-
  What the program's fire leaves. No statement of the seat is proved here.
-/
import Derived.Test.YtokhdnejaecejaaGrC
import Derived.Deep.AppendLies
namespace Go.Proofs.Ytokhdnejaecejaa
open Go.RowKit

theorem grown_below {w w' : World} (hb : Below w.heap.size w w') (r : Option Nat) : w.grownBy w' r := ⟨hb.os, hb.tape, hb.output, hb.size, fun k hk _ => hb.block k hk⟩
theorem vals_set (xs : List Int) (i : Nat) (v : Int) : (vals xs).set i (.int .i64 v) = vals (xs.set i v) := by simp [vals]
theorem vals_at {xs : List Int} {i : Nat} (h : i < xs.length) : (vals xs)[i]? = some (.int .i64 (xs.getD i 0)) := by simp [vals, List.getD, h]

set_option maxRecDepth 100000 in
set_option maxHeartbeats 16000000 in
theorem ifire_any (n : Int) (c : Value) (es : List Edg) (u : Value) (ts : List Int) (k : Int) (w0 w : World) (h : SlEd w0 c es) (hb0 : Below w0.heap.size w0 w) (gd : GoodG ⟨n, es⟩) (hu : Own w0.heap.size w u ts) (hl : ts.length = es.length)
    (hbd : ∀ i, i < ts.length → -1000000000 ≤ ts.getD i 0 ∧ ts.getD i 0 ≤ 1000000000) :
    Calls Try.prog 62 #[.agg #[.int .i64 n, c], u, .int .i64 k] w fun e w' => e = .returned (.tuple #[]) ∧ Own w0.heap.size w' u (fireL es k ts) ∧ w.grownBy w' u.ownBlock := by
  have HE := Lib.hid h
  have HGD := Lib.hid gd
  have HGL := Lib.hid (show es.length ≤ 1000000 by have := gd.len; simp at this; omega)
  obtain ⟨a, cap, rfl, _, _, _, hrest⟩ := h
  have HUL := Lib.hid (fun q e => (hu.lt q e).2)
  obtain ⟨ua, uc, rfl⟩ := hu.shape
  obtain ⟨m, hmm⟩ : ∃ m, m = es.length := ⟨_, rfl⟩
  obtain ⟨tn, htn⟩ : ∃ m, m = ts.length := ⟨_, rfl⟩
  have HU := Lib.hid (show w.ownsRow w0.heap.size 3 1 (.slice ua ts.length uc) ts.length (vals ts) from hu)
  rw [← htn] at HU HUL ⊢
  rw [← hmm] at HE ⊢
  have HM := Lib.hid hmm
  have HTN := Lib.hid htn
  have hmt : tn = m := by rw [hmm, htn]; exact hl
  have HBDT := Lib.hid (show ∀ i, i < tn → -1000000010 ≤ ts.getD i 0 ∧ ts.getD i 0 ≤ 1000000010 by intro i hi; have := hbd i (by rw [← htn]; exact hi); omega)
  have HBDM := Lib.hid (show ∀ i, i < tn → -1000000010 ≤ (chg (toK es k) (dTk es) ts).getD i 0 ∧ (chg (toK es k) (dTk es) ts).getD i 0 ≤ 1000000010 by
    intro i hi
    obtain ⟨x, hx⟩ : ∃ x, es[i]? = some x := ⟨_, List.getElem?_eq_getElem (by rw [← hmm]; omega)⟩
    have := (gd.all i x hx).tk
    have hq := hbd i (by rw [← htn]; exact hi)
    rw [chg_at (by rw [← htn]; exact hi)]
    unfold dTk
    rw [edAt_of hx]
    split <;> omega)
  have HLBT := Lib.hid (show ts.length = tn from htn.symm)
  have HLBM := Lib.hid (show (chg (toK es k) (dTk es) ts).length = tn by rw [chg_len]; exact htn.symm)
  have HB0 := Lib.hid hb0
  have hb := Lib.hid ((Below.refl w.heap.size w).al (.cells #[.int .i64 n, .slice a m cap] 29))
  have hH := Lib.hid (hp1 w (.cells #[.int .i64 n, .slice a m cap] 29))
  clear hmm htn hl hu gd hbd hb0
  go_enter Try.func62, Try.ntmps62
  go_wp2_with (first | (go_at_call 78; refine (isdT_any _).mono ?_; rintro e w1 ⟨rfl, hb1⟩; have HB1 := Lib.hid (hb.out.trans (hb1.mono hb.out.size)); have HG1 := Lib.hid (blk_in hH.out hb1); clear hb1) | (go_at_call 79; refine (isdM_any _).mono ?_; rintro e w2 ⟨rfl, hb2⟩; have HB2 := Lib.hid (HB1.out.trans (hb2.mono HB1.out.size)); have HG2 := Lib.hid (blk_in HG1.out hb2); have HW2 := Lib.hid (show w.heap.size < w2.heap.size from lt_of HG2.out); obtain ⟨g0, g1⟩ := cells2 HG2.out; have lg := lt_of HG2.out; have hb2a := ((Below.refl w2.heap.size w2).al (.cells #[.func (.func 120) #[] #[], .func (.func 121) #[] #[], .int .i64 1] 108)).al (.cells #[.func (.func 122) #[] #[], .func (.func 123) #[] #[], .int .i64 2] 108); have HB2A := Lib.hid (HB2.out.trans (hb2a.mono HB2.out.size)); have HS2T := Lib.hid (hp21 w2 (.cells #[.func (.func 120) #[] #[], .func (.func 121) #[] #[], .int .i64 1] 108) (.cells #[.func (.func 122) #[] #[], .func (.func 123) #[] #[], .int .i64 2] 108)); have HS2M := Lib.hid (hp2 w2 (.cells #[.func (.func 120) #[] #[], .func (.func 121) #[] #[], .int .i64 1] 108) (.cells #[.func (.func 122) #[] #[], .func (.func 123) #[] #[], .int .i64 2] 108)); have HG2A := Lib.hid (blk_in HG2.out hb2a); have HB02 := Lib.hid (HB0.out.trans (HB2A.out.mono HB0.out.size)); clear hb2 hb2a) | (go_at_call 106; refine (ieatT_any n _ es k _ (HE.out.below HB02.out) HGL.out).mono ?_; rintro e w3 ⟨lvT, rfl, ol, hb3⟩; have HB3 := Lib.hid (HB2A.out.trans (hb3.mono HB2A.out.size)); have HTT := Lib.hid (blk_in HS2T.out hb3); have HMT := Lib.hid (blk_in HS2M.out hb3); have HGT := Lib.hid (blk_in HG2A.out hb3); have HBT := Lib.hid (HB0.out.trans (HB3.out.mono HB0.out.size)); have HOT := Lib.hid (row_below HU.out HB3.out); have HWT := Lib.hid (grown_below HB3.out (Value.slice ua tn uc).ownBlock); obtain ⟨xsT, hxs⟩ : ∃ L, L = idxs Edg.to es k := ⟨_, rfl⟩; rw [← hxs] at ol; have HXST := Lib.hid hxs; obtain ⟨laT, lcT, rfl⟩ := ol.shape; obtain ⟨lnT, hln⟩ : ∃ z, z = xsT.length := ⟨_, rfl⟩; have HLNT := Lib.hid hln; have HOLT := Lib.hid (ol.mono (lo' := w2.heap.size) (by simp; omega)); rw [← hln] at HOLT ⊢; clear g0 g1 lg hb3 hxs hln ol))
  have hlbT : lnT ≤ 1000000 := by have := HLNT.out; rw [HXST.out, idxs_len] at this; have := idxN_le Edg.to es k; have := HGL.out; omega
  go_loopw [19] (fun i wr => ∃ p : Nat, p ≤ lnT ∧ i = .int .i64 p ∧ Hid (wr.ownsRow w0.heap.size 3 1 (.slice ua tn uc) tn (vals (chg (doneP Edg.to es k p) (dTk es) ts))) ∧ Hid (w.grownBy wr (Value.slice ua tn uc).ownBlock) ∧ Hid (Below w0.heap.size w0 wr) ∧ Hid (Own w2.heap.size wr (.slice laT lnT lcT) xsT) ∧ Hid (wr.heap[w2.heap.size]? = some (.cells #[.func (.func 120) #[] #[], .func (.func 121) #[] #[], .int .i64 1] 108)) ∧ Hid (wr.heap[w2.heap.size + 1]? = some (.cells #[.func (.func 122) #[] #[], .func (.func 123) #[] #[], .int .i64 2] 108)) ∧ Hid (wr.heap[w.heap.size]? = some (.cells #[.int .i64 n, .slice a m cap] 29))) (fun i _ => lnT - (intOf i).toNat)
  case atStart => exact ⟨0, Nat.zero_le _, rfl, Lib.hid (by rw [chg_no (fun i _ => doneP_zero _ _ _ i)]; exact HOT.out), HWT, HBT, HOLT, HTT, HMT, HGT⟩
  case round =>
      obtain ⟨p, hp, rfl, HO, HW, HB, HL, HTB, HMB, HGB⟩ := hrel
      by_cases hlt : p < lnT
      · obtain ⟨i, hi1, hi2, hi3, hi4⟩ := idxs_at (f := Edg.to) (es := es) (k := k) (p := p) (by rw [← HXST.out, ← HLNT.out]; exact hlt)
        rw [← HXST.out] at hi2
        have him : i < m := by rw [HM.out]; exact hi3
        have hit : i < tn := by omega
        have HI1 := Lib.hid hi1
        have HI4 := Lib.hid hi4
        rcases hrest with rfl | ⟨b, off, rfl, hbl, hcell⟩
        · exact absurd hi3 (by simp)
        · obtain ⟨x, hx⟩ : ∃ x, es[i]? = some x := ⟨_, List.getElem?_eq_getElem hi3⟩
          obtain ⟨e0, e1, e2, e3, e4⟩ := hcell i x hx
          have c0 := (HB.out.cell (p := ⟨b, off + i * 5, none⟩) hbl).trans e0
          have c1 := (HB.out.cell (p := ⟨b, off + i * 5 + 1, none⟩) hbl).trans e1
          have c2 := (HB.out.cell (p := ⟨b, off + i * 5 + 2, none⟩) hbl).trans e2
          have c3 := (HB.out.cell (p := ⟨b, off + i * 5 + 3, none⟩) hbl).trans e3
          have c4 := (HB.out.cell (p := ⟨b, off + i * 5 + 4, none⟩) hbl).trans e4
          have hbl2 : b < wr.heap.size := Nat.lt_of_lt_of_le hbl HB.out.size
          have hGx := HGD.out.all i x hx
          have hxtk : 1 ≤ x.tk ∧ x.tk ≤ 5 := hGx.tk
          have HX := Lib.hid hx
          obtain ⟨t, htt⟩ : ∃ t, t = ts.getD i 0 := ⟨_, rfl⟩
          have HTT := Lib.hid htt
          have htb : -1000000010 ≤ t ∧ t ≤ 1000000010 := by rw [htt]; exact HBDT.out i hit
          have wt : wrap64 (t - x.tk) = t - x.tk := IntWalk.wrap64_in _ (by omega)
          have hbase : i < (ts).length := by rw [HLBT.out]; exact hit
          have hval : (chg (doneP Edg.to es k p) (dTk es) ts).getD i 0 = t := by rw [chg_at hbase, doneP_new hi1, htt]; simp
          obtain ⟨g, rfl⟩ : ∃ g, ua = some ⟨g, 0, none⟩ := by
            rcases HO.out.2 with ⟨_, q⟩ | ⟨g, cap', cur, q, _⟩
            · omega
            · simp only [Value.slice.injEq] at q; exact ⟨g, q.1⟩
          have hgw : g < w.heap.size := HUL.out g rfl
          have hg0 : w0.heap.size ≤ g := (World.ownsRow.lt HO.out g rfl).1
          have hgr : g < wr.heap.size := (World.ownsRow.lt HO.out g rfl).2
          have hfz := HO.out.frozenAt i
          have hck : wr.cell? ⟨g, i, none⟩ = some (.int .i64 t) := by
            rw [HO.out.cellAt i (by omega), vals_at (by rw [chg_len]; exact hbase), hval]
          have hcl : ∃ lb loff, laT = some ⟨lb, loff, none⟩ ∧ lb < wr.heap.size ∧ wr.cell? ⟨lb, loff + p, none⟩ = some (.int .i64 (i : Int)) := by
            obtain ⟨a', c', e', _, _, _, q⟩ := HL.out.sl
            simp only [Value.slice.injEq] at e'
            rcases q with q | ⟨lb, loff, q1, q2, q3⟩
            · have := HLNT.out; rw [q] at this; simp at this; omega
            · exact ⟨lb, loff, by rw [e'.1]; exact q1, q2, by rw [← hi2]; exact q3 p (by rw [← HLNT.out]; exact hlt)⟩
          obtain ⟨lb, loff, rfl, hlb2, hlc⟩ := hcl
          obtain ⟨s0, s1, s2⟩ := cells3 HTB.out
          have ls := lt_of HTB.out
          obtain ⟨g0, g1⟩ := cells2 HGB.out
          have lg := lt_of HGB.out
          have HST := Lib.hid (chg_set (P := doneP Edg.to es k p) (P' := doneP Edg.to es k (p + 1)) (d := dTk es) hbase (doneP_new hi1) (fun i2 _ => doneP_step hi1 i2))
          have HDV := Lib.hid (show ts.getD i 0 + dTk es i = t - x.tk by rw [← htt]; unfold dTk; rw [edAt_of hx]; first | rfl | omega)
          clear hx hcell e0 e1 e2 e3 e4 hi1 hi2 hi3 hi4 htt hbase hval hGx
          go_wp2_with fail
          go_region_law (first | (go_simp; go_at_call 121; refine (icloT2_any x _).mono ?_; rintro e w4 ⟨rfl, hb4⟩; have hs4 := (show Below wr.heap.size wr w4 by first | with_reducible exact hb4 | with_reducible exact cr_d hb4); have HS4 := Lib.hid hs4; have k1 := (hs4.cell (p := ⟨w2.heap.size, 1, none⟩) ls).trans s1; have k2 := (hs4.cell (p := ⟨w.heap.size, 1, none⟩) lg).trans g1; have ho4 := row_below HO.out hs4; have k3 := ho4.frozenAt i; have k4 := (hs4.cell (p := ⟨g, i, none⟩) hgr).trans hck; have y0 := (hs4.cell (p := ⟨b, off + i * 5, none⟩) hbl2).trans c0; have y1 := (hs4.cell (p := ⟨b, off + i * 5 + 1, none⟩) hbl2).trans c1; have y2 := (hs4.cell (p := ⟨b, off + i * 5 + 2, none⟩) hbl2).trans c2; have y3 := (hs4.cell (p := ⟨b, off + i * 5 + 3, none⟩) hbl2).trans c3; have y4 := (hs4.cell (p := ⟨b, off + i * 5 + 4, none⟩) hbl2).trans c4; clear hb4 hs4 ho4))
          all_goals
            go_wp2_with fail
            go_roundw
            case rel =>
              have ho4 := row_below HO.out HS4.out
              have R := ho4.stored i (.int .i64 (t - x.tk))
              rw [vals_set, ← HDV.out, HST.out] at R
              have HR := Lib.hid R
              clear R ho4
              rw [← HDV.out]
              have hz4 := HS4.out.size
              refine ⟨p + 1, by omega, by go_num, Lib.hid ?q1, Lib.hid ?q2, Lib.hid ?q3, Lib.hid ?q4, Lib.hid ?q5, Lib.hid ?q6, Lib.hid ?q7⟩
              case q1 => first | exact HR.out.1 | exact World.ownsRow.drew HR.out.1
              case q2 => first | exact (HW.out.trans (grown_below HS4.out _)).trans HR.out.2 | exact ((HW.out.trans (grown_below HS4.out _)).trans HR.out.2).trans (grown_below (Below.refl _ _).drew _)
              case q3 => first | exact (HB.out.trans (HS4.out.mono HB.out.size)).setCell (by exact hg0) _ | exact ((HB.out.trans (HS4.out.mono HB.out.size)).setCell (by exact hg0) _).drew
              case q4 => first | exact (HL.out.below HS4.out).setB (a := ⟨g, i, none⟩) (by show g < w2.heap.size; have := HW2.out; omega) _ | exact ((HL.out.below HS4.out).setB (a := ⟨g, i, none⟩) (by show g < w2.heap.size; have := HW2.out; omega) _).below (Below.refl _ _).drew
              case q5 => exact (HR.out.2.block _ (by have := lt_of HTB.out; omega) (by intro e; have := HW2.out; injection e with e; omega)).trans (blk_in HTB.out HS4.out)
              case q6 => exact (HR.out.2.block _ (by have := lt_of HMB.out; omega) (by intro e; have := HW2.out; injection e with e; omega)).trans (blk_in HMB.out HS4.out)
              case q7 => exact (HR.out.2.block _ (by have := lt_of HGB.out; omega) (by intro e; injection e with e; omega)).trans (blk_in HGB.out HS4.out)
            case measure => simp [intOf]; omega
      · have e1 := Lib.hid (show chg (doneP Edg.to es k p) (dTk es) ts = chg (toK es k) (dTk es) ts from chg_ext (fun i hi => by rw [doneP_all (by rw [← HXST.out, ← HLNT.out]; exact hlt) (by have := HLBT.out; have := HM.out; omega)]; rfl) (fun _ _ _ => rfl))
        rw [e1.out] at HO

        obtain ⟨g0, g1⟩ := cells2 HGB.out
        have lg := lt_of HGB.out
        obtain ⟨s0, s1, s2⟩ := cells3 HMB.out
        have ls := lt_of HMB.out
        go_wp2_with (go_at_call 106; refine (ieatM_any n _ es k _ (HE.out.below HB.out) HGL.out).mono ?_; rintro e w3 ⟨lvM, rfl, ol, hb3⟩; have HTM := Lib.hid (blk_in HTB.out hb3); have HMM := Lib.hid (blk_in HMB.out hb3); have HGM := Lib.hid (blk_in HGB.out hb3); have HBM := Lib.hid (HB.out.trans (hb3.mono HB.out.size)); have HOM := Lib.hid (row_below HO.out hb3); have HWM := Lib.hid (HW.out.trans (grown_below hb3 (Value.slice ua tn uc).ownBlock)); obtain ⟨xsM, hxs⟩ : ∃ L, L = idxs Edg.fr es k := ⟨_, rfl⟩; rw [← hxs] at ol; have HXSM := Lib.hid hxs; obtain ⟨laM, lcM, rfl⟩ := ol.shape; obtain ⟨lnM, hln⟩ : ∃ z, z = xsM.length := ⟨_, rfl⟩; have HLNM := Lib.hid hln; have HOLM := Lib.hid (ol.mono (lo' := w2.heap.size) (by have := lt_of HTB.out; omega)); rw [← hln] at HOLM ⊢; clear g0 g1 lg s0 s1 s2 ls hb3 hxs hln ol HO HW HB HL HTB HMB HGB)
        have hlbM : lnM ≤ 1000000 := by have := HLNM.out; rw [HXSM.out, idxs_len] at this; have := idxN_le Edg.fr es k; have := HGL.out; omega
        go_loopw [43] (fun i wr => ∃ p : Nat, p ≤ lnM ∧ i = .int .i64 p ∧ Hid (wr.ownsRow w0.heap.size 3 1 (.slice ua tn uc) tn (vals (chg (doneP Edg.fr es k p) (dMk es) (chg (toK es k) (dTk es) ts)))) ∧ Hid (w.grownBy wr (Value.slice ua tn uc).ownBlock) ∧ Hid (Below w0.heap.size w0 wr) ∧ Hid (Own w2.heap.size wr (.slice laM lnM lcM) xsM) ∧ Hid (wr.heap[w2.heap.size]? = some (.cells #[.func (.func 120) #[] #[], .func (.func 121) #[] #[], .int .i64 1] 108)) ∧ Hid (wr.heap[w2.heap.size + 1]? = some (.cells #[.func (.func 122) #[] #[], .func (.func 123) #[] #[], .int .i64 2] 108)) ∧ Hid (wr.heap[w.heap.size]? = some (.cells #[.int .i64 n, .slice a m cap] 29))) (fun i _ => lnM - (intOf i).toNat)
        case atStart => exact ⟨0, Nat.zero_le _, rfl, Lib.hid (by rw [chg_no (fun i _ => doneP_zero _ _ _ i)]; exact HOM.out), HWM, HBM, HOLM, HTM, HMM, HGM⟩
        case round =>
            obtain ⟨p, hp, rfl, HO, HW, HB, HL, HTB, HMB, HGB⟩ := hrel
            by_cases hlt : p < lnM
            · obtain ⟨i, hi1, hi2, hi3, hi4⟩ := idxs_at (f := Edg.fr) (es := es) (k := k) (p := p) (by rw [← HXSM.out, ← HLNM.out]; exact hlt)
              rw [← HXSM.out] at hi2
              have him : i < m := by rw [HM.out]; exact hi3
              have hit : i < tn := by omega
              have HI1 := Lib.hid hi1
              have HI4 := Lib.hid hi4
              rcases hrest with rfl | ⟨b, off, rfl, hbl, hcell⟩
              · exact absurd hi3 (by simp)
              · obtain ⟨x, hx⟩ : ∃ x, es[i]? = some x := ⟨_, List.getElem?_eq_getElem hi3⟩
                obtain ⟨e0, e1, e2, e3, e4⟩ := hcell i x hx
                have c0 := (HB.out.cell (p := ⟨b, off + i * 5, none⟩) hbl).trans e0
                have c1 := (HB.out.cell (p := ⟨b, off + i * 5 + 1, none⟩) hbl).trans e1
                have c2 := (HB.out.cell (p := ⟨b, off + i * 5 + 2, none⟩) hbl).trans e2
                have c3 := (HB.out.cell (p := ⟨b, off + i * 5 + 3, none⟩) hbl).trans e3
                have c4 := (HB.out.cell (p := ⟨b, off + i * 5 + 4, none⟩) hbl).trans e4
                have hbl2 : b < wr.heap.size := Nat.lt_of_lt_of_le hbl HB.out.size
                have hGx := HGD.out.all i x hx
                have hxmke : 1 ≤ x.mke ∧ x.mke ≤ 5 := hGx.mke
                have HX := Lib.hid hx
                obtain ⟨t, htt⟩ : ∃ t, t = (chg (toK es k) (dTk es) ts).getD i 0 := ⟨_, rfl⟩
                have HTT := Lib.hid htt
                have htb : -1000000010 ≤ t ∧ t ≤ 1000000010 := by rw [htt]; exact HBDM.out i hit
                have wt : wrap64 (t + x.mke) = t + x.mke := IntWalk.wrap64_in _ (by omega)
                have hbase : i < ((chg (toK es k) (dTk es) ts)).length := by rw [HLBM.out]; exact hit
                have hval : (chg (doneP Edg.fr es k p) (dMk es) (chg (toK es k) (dTk es) ts)).getD i 0 = t := by rw [chg_at hbase, doneP_new hi1, htt]; simp
                obtain ⟨g, rfl⟩ : ∃ g, ua = some ⟨g, 0, none⟩ := by
                  rcases HO.out.2 with ⟨_, q⟩ | ⟨g, cap', cur, q, _⟩
                  · omega
                  · simp only [Value.slice.injEq] at q; exact ⟨g, q.1⟩
                have hgw : g < w.heap.size := HUL.out g rfl
                have hg0 : w0.heap.size ≤ g := (World.ownsRow.lt HO.out g rfl).1
                have hgr : g < wr.heap.size := (World.ownsRow.lt HO.out g rfl).2
                have hfz := HO.out.frozenAt i
                have hck : wr.cell? ⟨g, i, none⟩ = some (.int .i64 t) := by
                  rw [HO.out.cellAt i (by omega), vals_at (by rw [chg_len]; exact hbase), hval]
                have hcl : ∃ lb loff, laM = some ⟨lb, loff, none⟩ ∧ lb < wr.heap.size ∧ wr.cell? ⟨lb, loff + p, none⟩ = some (.int .i64 (i : Int)) := by
                  obtain ⟨a', c', e', _, _, _, q⟩ := HL.out.sl
                  simp only [Value.slice.injEq] at e'
                  rcases q with q | ⟨lb, loff, q1, q2, q3⟩
                  · have := HLNM.out; rw [q] at this; simp at this; omega
                  · exact ⟨lb, loff, by rw [e'.1]; exact q1, q2, by rw [← hi2]; exact q3 p (by rw [← HLNM.out]; exact hlt)⟩
                obtain ⟨lb, loff, rfl, hlb2, hlc⟩ := hcl
                obtain ⟨s0, s1, s2⟩ := cells3 HMB.out
                have ls := lt_of HMB.out
                obtain ⟨g0, g1⟩ := cells2 HGB.out
                have lg := lt_of HGB.out
                have HST := Lib.hid (chg_set (P := doneP Edg.fr es k p) (P' := doneP Edg.fr es k (p + 1)) (d := dMk es) hbase (doneP_new hi1) (fun i2 _ => doneP_step hi1 i2))
                have HDV := Lib.hid (show (chg (toK es k) (dTk es) ts).getD i 0 + dMk es i = t + x.mke by rw [← htt]; unfold dMk; rw [edAt_of hx])
                clear hx hcell e0 e1 e2 e3 e4 hi1 hi2 hi3 hi4 htt hbase hval hGx
                go_wp2_with fail
                go_region_law (first | (go_simp; go_at_call 123; refine (icloM2_any x _).mono ?_; rintro e w4 ⟨rfl, hb4⟩; have hs4 := (show Below wr.heap.size wr w4 by first | with_reducible exact hb4 | with_reducible exact cr_d hb4); have HS4 := Lib.hid hs4; have k1 := (hs4.cell (p := ⟨w2.heap.size + 1, 1, none⟩) ls).trans s1; have k2 := (hs4.cell (p := ⟨w.heap.size, 1, none⟩) lg).trans g1; have ho4 := row_below HO.out hs4; have k3 := ho4.frozenAt i; have k4 := (hs4.cell (p := ⟨g, i, none⟩) hgr).trans hck; have y0 := (hs4.cell (p := ⟨b, off + i * 5, none⟩) hbl2).trans c0; have y1 := (hs4.cell (p := ⟨b, off + i * 5 + 1, none⟩) hbl2).trans c1; have y2 := (hs4.cell (p := ⟨b, off + i * 5 + 2, none⟩) hbl2).trans c2; have y3 := (hs4.cell (p := ⟨b, off + i * 5 + 3, none⟩) hbl2).trans c3; have y4 := (hs4.cell (p := ⟨b, off + i * 5 + 4, none⟩) hbl2).trans c4; clear hb4 hs4 ho4))
                all_goals
                  go_wp2_with fail
                  go_roundw
                  case rel =>
                    have ho4 := row_below HO.out HS4.out
                    have R := ho4.stored i (.int .i64 (t + x.mke))
                    rw [vals_set, ← HDV.out, HST.out] at R
                    have HR := Lib.hid R
                    clear R ho4
                    rw [← HDV.out]
                    have hz4 := HS4.out.size
                    refine ⟨p + 1, by omega, by go_num, Lib.hid ?q1, Lib.hid ?q2, Lib.hid ?q3, Lib.hid ?q4, Lib.hid ?q5, Lib.hid ?q6, Lib.hid ?q7⟩
                    case q1 => first | exact HR.out.1 | exact World.ownsRow.drew HR.out.1
                    case q2 => first | exact (HW.out.trans (grown_below HS4.out _)).trans HR.out.2 | exact ((HW.out.trans (grown_below HS4.out _)).trans HR.out.2).trans (grown_below (Below.refl _ _).drew _)
                    case q3 => first | exact (HB.out.trans (HS4.out.mono HB.out.size)).setCell (by exact hg0) _ | exact ((HB.out.trans (HS4.out.mono HB.out.size)).setCell (by exact hg0) _).drew
                    case q4 => first | exact (HL.out.below HS4.out).setB (a := ⟨g, i, none⟩) (by show g < w2.heap.size; have := HW2.out; omega) _ | exact ((HL.out.below HS4.out).setB (a := ⟨g, i, none⟩) (by show g < w2.heap.size; have := HW2.out; omega) _).below (Below.refl _ _).drew
                    case q5 => exact (HR.out.2.block _ (by have := lt_of HTB.out; omega) (by intro e; have := HW2.out; injection e with e; omega)).trans (blk_in HTB.out HS4.out)
                    case q6 => exact (HR.out.2.block _ (by have := lt_of HMB.out; omega) (by intro e; have := HW2.out; injection e with e; omega)).trans (blk_in HMB.out HS4.out)
                    case q7 => exact (HR.out.2.block _ (by have := lt_of HGB.out; omega) (by intro e; injection e with e; omega)).trans (blk_in HGB.out HS4.out)
                  case measure => simp [intOf]; omega
            · have e1 := Lib.hid (show chg (doneP Edg.fr es k p) (dMk es) (chg (toK es k) (dTk es) ts) = chg (frK es k) (dMk es) (chg (toK es k) (dTk es) ts) from chg_ext (fun i hi => by rw [doneP_all (by rw [← HXSM.out, ← HLNM.out]; exact hlt) (by have := HLBM.out; have := HM.out; omega)]; rfl) (fun _ _ _ => rfl))
              rw [e1.out] at HO

              go_wp2_with fail
              go_end0
              refine ⟨rfl, ?_, HW.out⟩
              show Own w0.heap.size _ _ (chg (frK es k) (dMk es) (chg (toK es k) (dTk es) ts))
              unfold Own
              rw [chg_len, chg_len, ← HTN.out]
              exact HO.out

end Go.Proofs.Ytokhdnejaecejaa
