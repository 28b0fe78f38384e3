/-
  What FireNode answers, the program's and the model's. No statement of the seat is proved here.
-/
import Derived.Test.YtokhdnejaecejaaGrS
namespace Go.Proofs.Ytokhdnejaecejaa
open Go.RowKit

def okF (g : Grf) (ts : List Int) (k : Int) : Bool := okG g && okToks g.edges.length ts && (inB 0 (g.nodes - 1) k && canL g.edges k ts)
def fireNodeR0 (g : Grf) (ts : List Int) (k : Int) : List Int := if okF g ts k then fireL g.edges k ts else []
theorem fireNodeR0_yes {g : Grf} {ts : List Int} {k : Int} (h : okF g ts k = true) : fireNodeR0 g ts k = fireL g.edges k ts := by simp [fireNodeR0, h]
theorem fireNodeR0_no {g : Grf} {ts : List Int} {k : Int} (h : okF g ts k = false) : fireNodeR0 g ts k = [] := by simp [fireNodeR0, h]
theorem fireNode_len (g : Grf) (ts : List Int) (k : Int) : (fireNodeR0 g ts k).length ≤ ts.length := by
  unfold fireNodeR0; split
  · rw [fireL_len]; exact Nat.le_refl _
  · simp
theorem okToks_len {m : Nat} {ts : List Int} (h : okToks m ts = true) : ts.length = m := by
  unfold okToks at h; simp only [Bool.and_eq_true, decide_eq_true_eq] at h; exact h.1
theorem fireNode_bd (g : Grf) (ts : List Int) (k : Int) : (fireNodeR0 g ts k).length ≤ 16 := by
  cases h : okF g ts k with
  | false => rw [fireNodeR0_no h]; simp
  | true =>
    rw [fireNodeR0_yes h, fireL_len]
    unfold okF at h
    simp only [Bool.and_eq_true] at h
    rw [okToks_len h.1.2]
    exact (okG_iff.1 h.1.1).len
theorem okToks_at {m : Nat} {ts : List Int} (h : okToks m ts = true) : ∀ i, i < ts.length → 0 ≤ ts.getD i 0 ∧ ts.getD i 0 ≤ 1000000 := by
  intro i hi
  unfold okToks at h
  simp only [Bool.and_eq_true, List.all_eq_true] at h
  have := inB_t (h.2 (ts.getD i 0) (by simp [List.getD, hi]))
  exact this

set_option maxRecDepth 100000 in
set_option maxHeartbeats 4000000 in
theorem ifn_w (v : Value) (g : Grf) (u : Value) (ts : List Int) (k : Int) (w : World) (h : GrV w v g) (hu : Sl w u ts) (_hk : (Lit.int .i64 k).wf = true) :
    Calls Try.prog 21 #[v, u, .int .i64 k] w fun e w' => ∃ v', e = .returned (.tuple #[v', .bool (okF g ts k)]) ∧ OwnH w.heap.size w'.heap.size w' v' (fireNodeR0 g ts k) ∧ Below w.heap.size w w' := by
  have HV := Lib.hid h
  have HU := Lib.hid hu
  obtain ⟨c, rfl, hc⟩ := h
  obtain ⟨n, es⟩ := g
  simp only [] at hc HV ⊢
  have HC := Lib.hid hc
  obtain ⟨a, cap, rfl, _, _, _, _⟩ := hc
  obtain ⟨ua, uc, rfl, _, _, _, _⟩ := hu
  obtain ⟨m, hmm⟩ : ∃ m, m = es.length := ⟨_, rfl⟩
  obtain ⟨tn, htn⟩ : ∃ m, m = ts.length := ⟨_, rfl⟩
  rw [← htn] at HU ⊢
  rw [← hmm] at HV HC ⊢
  have HM := Lib.hid hmm
  have HTN := Lib.hid htn
  obtain ⟨ok, hok⟩ : ∃ b, b = okF ⟨n, es⟩ ts k := ⟨_, rfl⟩
  obtain ⟨R, hR⟩ : ∃ R, R = fireNodeR0 ⟨n, es⟩ ts k := ⟨_, rfl⟩
  rw [← hok, ← hR]
  have HOK := Lib.hid (hok.trans (show okF ⟨n, es⟩ ts k = (okG ⟨n, es⟩ && okToks m ts && (inB 0 (n - 1) k && canL es k ts)) by rw [hmm]; rfl))
  have HOF := Lib.hid hok
  have HRR := Lib.hid hR
  have hb := Lib.hid ((Below.refl w.heap.size w).al (.cells #[.int .i64 n, .slice a m cap] 29))
  have hH := Lib.hid (hp1 w (.cells #[.int .i64 n, .slice a m cap] 29))
  clear hmm htn hok hR
  go_enter Try.func21, Try.ntmps21
  cases q0 : okG ⟨n, es⟩ with
  | false =>
    have HQ := Lib.hid q0
    go_wp2_with (go_at_call 17; refine (iisg_any _ ⟨n, es⟩ _ (HV.out.below hb.out)).mono ?_; rintro e w1 ⟨rfl, hb1⟩; rw [HQ.out]; have HB1 := Lib.hid (hb.out.trans (hb1.mono hb.out.size)); clear hb1)
    go_ret2
    have hno : okF ⟨n, es⟩ ts k = false := HOF.out.symm.trans (HOK.out.trans (by simp [HQ.out]))
    exact ⟨_, out_ret (by rw [HOF.out]; exact hno), by rw [HRR.out, fireNodeR0_no hno]; exact OwnH.of (own_nil _ _), HB1.out⟩
  | true =>
    have GD := Lib.hid (okG_iff.1 q0)
    have hm16 : m ≤ 16 := by rw [HM.out]; exact GD.out.len
    have HQ := Lib.hid q0
    clear q0
    cases q1 : okToks m ts with
    | false =>
      have HQ1 := Lib.hid q1
      clear q1
      go_wp2_with (first | (go_at_call 17; refine (iisg_any _ ⟨n, es⟩ _ (HV.out.below hb.out)).mono ?_; rintro e w1 ⟨rfl, hb1⟩; rw [HQ.out]; have HB1 := Lib.hid (hb.out.trans (hb1.mono hb.out.size)); have HG1 := Lib.hid (blk_in hH.out hb1); obtain ⟨g0, g1⟩ := cells2 HG1.out; have lg := lt_of HG1.out; clear hb1) | (go_at_call 59; refine (iare_any n _ m cap _ ts _ (by omega) (HU.out.below HB1.out)).mono ?_; rintro e w2 ⟨rfl, hb2⟩; rw [HQ1.out]; have HB2 := Lib.hid (HB1.out.trans (hb2.mono HB1.out.size)); clear hb2 g0 g1 lg))
      go_ret2
      have hno : okF ⟨n, es⟩ ts k = false := HOF.out.symm.trans (HOK.out.trans (by simp [HQ.out, HQ1.out]))
      exact ⟨_, out_ret (by rw [HOF.out]; exact hno), by rw [HRR.out, fireNodeR0_no hno]; exact OwnH.of (own_nil _ _), HB2.out⟩
    | true =>
      have HQ1 := Lib.hid q1
      have HLN := Lib.hid (show ts.length = es.length by rw [okToks_len q1, HM.out])
      have HBD := Lib.hid (show ∀ i, i < ts.length → -1000000000 ≤ ts.getD i 0 ∧ ts.getD i 0 ≤ 1000000000 from fun i hi => by have := okToks_at q1 i hi; omega)
      clear q1
      cases q2 : (inB 0 (n - 1) k && canL es k ts) with
      | false =>
        have HQ2 := Lib.hid q2
        clear q2
        go_wp2_with (first | (go_at_call 17; refine (iisg_any _ ⟨n, es⟩ _ (HV.out.below hb.out)).mono ?_; rintro e w1 ⟨rfl, hb1⟩; rw [HQ.out]; have HB1 := Lib.hid (hb.out.trans (hb1.mono hb.out.size)); have HG1 := Lib.hid (blk_in hH.out hb1); obtain ⟨g0, g1⟩ := cells2 HG1.out; have lg := lt_of HG1.out; clear hb1) | (go_at_call 59; refine (iare_any n _ m cap _ ts _ (by omega) (HU.out.below HB1.out)).mono ?_; rintro e w2 ⟨rfl, hb2⟩; rw [HQ1.out]; have HB2 := Lib.hid (HB1.out.trans (hb2.mono HB1.out.size)); have HG2 := Lib.hid (blk_in HG1.out hb2); clear hb2 g0 g1 lg; obtain ⟨g0, g1⟩ := cells2 HG2.out; have lg := lt_of HG2.out) | (go_at_call 60; refine (ican_any n _ es _ ts k _ (HC.out.below HB2.out) (by have := HM.out; omega) (HU.out.below HB2.out) HLN.out).mono ?_; rintro e w3 ⟨rfl, hb3⟩; rw [HQ2.out]; have HB3 := Lib.hid (HB2.out.trans (hb3.mono HB2.out.size)); clear hb3 g0 g1 lg))
        go_ret2
        have hno : okF ⟨n, es⟩ ts k = false := HOF.out.symm.trans (HOK.out.trans (by simp [HQ.out, HQ1.out, HQ2.out]))
        exact ⟨_, out_ret (by rw [HOF.out]; exact hno), by rw [HRR.out, fireNodeR0_no hno]; exact OwnH.of (own_nil _ _), HB3.out⟩
      | true =>
        have HQ2 := Lib.hid q2
        clear q2
        go_wp2_with (first | (go_at_call 17; refine (iisg_any _ ⟨n, es⟩ _ (HV.out.below hb.out)).mono ?_; rintro e w1 ⟨rfl, hb1⟩; rw [HQ.out]; have HB1 := Lib.hid (hb.out.trans (hb1.mono hb.out.size)); have HG1 := Lib.hid (blk_in hH.out hb1); obtain ⟨g0, g1⟩ := cells2 HG1.out; have lg := lt_of HG1.out; clear hb1) | (go_at_call 59; refine (iare_any n _ m cap _ ts _ (by omega) (HU.out.below HB1.out)).mono ?_; rintro e w2 ⟨rfl, hb2⟩; rw [HQ1.out]; have HB2 := Lib.hid (HB1.out.trans (hb2.mono HB1.out.size)); have HG2 := Lib.hid (blk_in HG1.out hb2); clear hb2 g0 g1 lg; obtain ⟨g0, g1⟩ := cells2 HG2.out; have lg := lt_of HG2.out) | (go_at_call 60; refine (ican_any n _ es _ ts k _ (HC.out.below HB2.out) (by have := HM.out; omega) (HU.out.below HB2.out) HLN.out).mono ?_; rintro e w3 ⟨rfl, hb3⟩; rw [HQ2.out]; have HB3 := Lib.hid (HB2.out.trans (hb3.mono HB2.out.size)); have HG3 := Lib.hid (blk_in HG2.out hb3); clear hb3 g0 g1 lg; obtain ⟨g0, g1⟩ := cells2 HG3.out; have lg := lt_of HG3.out) | (go_at_call 61; refine (copyOf_any _ ts _ (HU.out.below HB3.out) (by have := HLN.out; have := HM.out; omega)).mono ?_; rintro e w4 ⟨ov, rfl, ol, hb4⟩; have HB4 := Lib.hid (HB3.out.trans (hb4.mono HB3.out.size)); have HG4 := Lib.hid (blk_in HG3.out hb4); clear g0 g1 lg; obtain ⟨g0, g1⟩ := cells2 HG4.out; have lg := lt_of HG4.out; have HOL := Lib.hid (ol.mono (lo' := w.heap.size) HB3.out.size); obtain ⟨oa, oc, rfl⟩ := ol.shape; rw [← HTN.out] at HOL ⊢; clear ol hb4) | (go_at_call 62; refine (ifire_any n _ es _ ts k w _ HC.out HB4.out GD.out HOL.out HLN.out HBD.out).mono ?_; rintro e w5 ⟨rfl, ho5, hg5⟩; have HO5 := Lib.hid ho5; have HB5 := Lib.hid (HB4.out.grown hg5 HB4.out.size (fun q e => (HOL.out.lt q e).1)); clear ho5 hg5 g0 g1 lg))
        go_ret2
        have hyes : okF ⟨n, es⟩ ts k = true := HOF.out.symm.trans (HOK.out.trans (by simp [HQ.out, HQ1.out, HQ2.out]))
        exact ⟨_, out_ret (by rw [HOF.out]; exact hyes), by rw [HRR.out, fireNodeR0_yes hyes]; exact OwnH.of HO5.out, HB5.out⟩

set_option maxRecDepth 100000 in
set_option maxHeartbeats 4000000 in
theorem sfn_w (v : Value) (g : Grf) (u : Value) (ts : List Int) (k : Int) (w : World) (h : GrV w v g) (hu : Sl w u ts) (_hk : (Lit.int .i64 k).wf = true) :
    Calls Try.prog 19 #[v, u, .int .i64 k] w fun e w' => ∃ v', e = .returned (.tuple #[v', .bool (okF g ts k)]) ∧ OwnH w.heap.size w'.heap.size w' v' (fireNodeR0 g ts k) ∧ Below w.heap.size w w' := by
  have HV := Lib.hid h
  have HU := Lib.hid hu
  obtain ⟨c, rfl, hc⟩ := h
  obtain ⟨n, es⟩ := g
  simp only [] at hc HV ⊢
  have HC := Lib.hid hc
  obtain ⟨a, cap, rfl, _, _, _, _⟩ := hc
  obtain ⟨ua, uc, rfl, _, hum, _, hrest⟩ := hu
  have htm : ts.length ≤ 9223372036854775807 := by unfold maxLen at hum; omega
  obtain ⟨m, hmm⟩ : ∃ m, m = es.length := ⟨_, rfl⟩
  obtain ⟨tn, htn⟩ : ∃ m, m = ts.length := ⟨_, rfl⟩
  rw [← htn] at HU htm ⊢
  rw [← hmm] at HV HC ⊢
  have HM := Lib.hid hmm
  have HTN := Lib.hid htn
  obtain ⟨ok, hok⟩ : ∃ b, b = okF ⟨n, es⟩ ts k := ⟨_, rfl⟩
  obtain ⟨R, hR⟩ : ∃ R, R = fireNodeR0 ⟨n, es⟩ ts k := ⟨_, rfl⟩
  rw [← hok, ← hR]
  have HOK := Lib.hid (hok.trans (show okF ⟨n, es⟩ ts k = (okG ⟨n, es⟩ && (decide (tn = m) && ts.all (inB 0 1000000)) && (inB 0 (n - 1) k && canL es k ts)) by rw [hmm, htn]; rfl))
  have HOF := Lib.hid hok
  have HRR := Lib.hid hR
  have hb := Lib.hid ((Below.refl w.heap.size w).al (.cells #[.int .i64 n, .slice a m cap] 29))
  have hH := Lib.hid (hp1 w (.cells #[.int .i64 n, .slice a m cap] 29))
  clear hmm htn hok hR hum
  go_enter Try.func19, Try.ntmps19
  cases q0 : okG ⟨n, es⟩ with
  | false =>
    have HQ := Lib.hid q0
    clear q0
    go_wp2_with (go_at_call 15; refine (sisg_any _ ⟨n, es⟩ _ (HV.out.below hb.out)).mono ?_; rintro e w1 ⟨rfl, hb1⟩; rw [HQ.out]; have HB1 := Lib.hid (hb.out.trans (hb1.mono hb.out.size)); have HG1 := Lib.hid (blk_in hH.out hb1); obtain ⟨g0, g1⟩ := cells2 HG1.out; have lg := lt_of HG1.out; clear hb1)
    go_ret2
    have hno : okF ⟨n, es⟩ ts k = false := HOF.out.symm.trans (HOK.out.trans (by simp [HQ.out]))
    exact ⟨_, out_ret (by rw [HOF.out]; exact hno), by rw [HRR.out, fireNodeR0_no hno]; exact OwnH.of (own_nil _ _), HB1.out⟩
  | true =>
    have GD := Lib.hid (okG_iff.1 q0)
    have hm16 : m ≤ 16 := by rw [HM.out]; exact GD.out.len
    have hnn : 0 ≤ n ∧ n ≤ 8 := GD.out.nodes
    have wn : wrap64 (n - 1) = n - 1 := IntWalk.wrap64_in _ (by omega)
    have HQ := Lib.hid q0
    clear q0
    cases q1 : inB 0 (n - 1) k with
    | false =>
      have HQ1 := Lib.hid q1
      clear q1
      go_wp2_with (first | (go_at_call 15; refine (sisg_any _ ⟨n, es⟩ _ (HV.out.below hb.out)).mono ?_; rintro e w1 ⟨rfl, hb1⟩; rw [HQ.out]; have HB1 := Lib.hid (hb.out.trans (hb1.mono hb.out.size)); have HG1 := Lib.hid (blk_in hH.out hb1); obtain ⟨g0, g1⟩ := cells2 HG1.out; have lg := lt_of HG1.out; clear hb1) | (go_at_call 54; refine (sin_any _ _ _ _).mono ?_; rintro e w' ⟨rfl, rfl⟩; rw [HQ1.out]))
      go_ret2
      have hno : okF ⟨n, es⟩ ts k = false := HOF.out.symm.trans (HOK.out.trans (by simp [HQ.out, HQ1.out]))
      exact ⟨_, out_ret (by rw [HOF.out]; exact hno), by rw [HRR.out, fireNodeR0_no hno]; exact OwnH.of (own_nil _ _), HB1.out⟩
    | true =>
      have HQ1 := Lib.hid q1
      clear q1
      by_cases ql : tn = m
      · have HLN := Lib.hid (show ts.length = es.length by rw [← HTN.out, ← HM.out]; exact ql)
        have d1 : ((tn : Int) == (m : Int)) = true := by rw [beq_iff_eq]; omega
        have d2 : ((tn : Int) != (m : Int)) = false := by simp; omega
        have HQL := Lib.hid ql
        clear ql
        go_wp2_with (first | (go_at_call 15; refine (sisg_any _ ⟨n, es⟩ _ (HV.out.below hb.out)).mono ?_; rintro e w1 ⟨rfl, hb1⟩; rw [HQ.out]; have HB1 := Lib.hid (hb.out.trans (hb1.mono hb.out.size)); have HG1 := Lib.hid (blk_in hH.out hb1); obtain ⟨g0, g1⟩ := cells2 HG1.out; have lg := lt_of HG1.out; clear hb1) | (go_at_call 54; refine (sin_any _ _ _ _).mono ?_; rintro e w' ⟨rfl, rfl⟩; rw [HQ1.out]))
        go_loopw [31] (fun i wr => ∃ p : Nat, p ≤ tn ∧ i = .int .i64 p ∧ Hid ((ts.take p).all (inB 0 1000000) = true) ∧ Hid (wr.heap[w.heap.size]? = some (.cells #[.int .i64 n, .slice a m cap] 29)) ∧ Hid (Below w.heap.size w wr)) (fun i _ => tn - (intOf i).toNat)
        case atStart => exact ⟨0, Nat.zero_le _, rfl, Lib.hid (by simp), HG1, HB1⟩
        case round =>
          clear g0 g1 lg
          obtain ⟨p, hp, rfl, HA, HG, HB⟩ := hrel
          obtain ⟨g0, g1⟩ := cells2 HG.out
          have lg := lt_of HG.out
          by_cases hlt : p < tn
          · have hplt := Lib.hid (show p < ts.length by rw [← HTN.out]; exact hlt)
            rcases hrest with rfl | ⟨b, off, rfl, hbl, hcell⟩
            · exact absurd hplt.out (by simp)
            · obtain ⟨x, hx⟩ : ∃ x, x = ts.getD p 0 := ⟨_, rfl⟩
              have hck := (HB.out.cell (p := ⟨b, off + p, none⟩) hbl).trans (hcell p hplt.out)
              rw [← hx] at hck
              have HX := Lib.hid hx
              clear hx hcell
              cases ht : inB 0 1000000 x with
              | false =>
                have HT := Lib.hid ht
                clear ht
                go_wp2_with (go_at_call 54; refine (sin_any _ _ _ _).mono ?_; rintro e w' ⟨rfl, rfl⟩; rw [HT.out])
                go_ret2
                have hno : okF ⟨n, es⟩ ts k = false := HOF.out.symm.trans (HOK.out.trans (by rw [all_no hplt.out HX.out HT.out]; simp))
                exact ⟨_, out_ret (by rw [HOF.out]; exact hno), by rw [HRR.out, fireNodeR0_no hno]; exact OwnH.of (own_nil _ _), HB.out⟩
              | true =>
                have HT := Lib.hid ht
                clear ht
                go_wp2_with (go_at_call 54; refine (sin_any _ _ _ _).mono ?_; rintro e w' ⟨rfl, rfl⟩; rw [HT.out])
                go_roundw
                case rel => exact ⟨p + 1, by omega, by go_num, Lib.hid (all_step hplt.out HX.out HA.out HT.out), HG, HB⟩
                case measure => simp [intOf]; omega
          · have HALL := Lib.hid (show ts.all (inB 0 1000000) = true from all_end (by rw [← HTN.out]; exact hlt) HA.out)
            have HTK := Lib.hid (show okToks m ts = true by unfold okToks; rw [HALL.out, ← HTN.out, decide_eq_true HQL.out]; rfl)
            have HBD := Lib.hid (show ∀ i, i < ts.length → -1000000000 ≤ ts.getD i 0 ∧ ts.getD i 0 ≤ 1000000000 from fun i hi => by have := okToks_at HTK.out i hi; omega)
            go_wp2_with (go_at_call 58; refine (sfire_any n _ es _ ts k _ (HC.out.below HB.out) GD.out (HU.out.below HB.out) HLN.out HBD.out).mono ?_; rintro e w5 ⟨ov, rfl, ol, hb5⟩; have HB5 := Lib.hid (HB.out.trans (hb5.mono HB.out.size)); have HO5 := Lib.hid (ol.mono (lo' := w.heap.size) HB.out.size); obtain ⟨oa, oc, rfl⟩ := ol.shape; clear ol hb5)
            go_ret2
            have hcan : okF ⟨n, es⟩ ts k = canL es k ts := HOF.out.symm.trans (HOK.out.trans (by rw [HQ.out, HQ1.out, HALL.out, decide_eq_true HQL.out]; simp))
            refine ⟨_, out_ret (by rw [HOF.out]; exact hcan), ?_, HB5.out⟩
            have hRR : R = fireR es k ts := by
              rw [HRR.out]; unfold fireNodeR0 fireR; rw [hcan]
            rw [hRR]
            exact OwnH.of HO5.out
      · have d1 : ((tn : Int) == (m : Int)) = false := by rw [beq_eq_false_iff_ne]; omega
        have d2 : ((tn : Int) != (m : Int)) = true := by simp; omega
        have HQL := Lib.hid ql
        clear ql
        go_wp2_with (first | (go_at_call 15; refine (sisg_any _ ⟨n, es⟩ _ (HV.out.below hb.out)).mono ?_; rintro e w1 ⟨rfl, hb1⟩; rw [HQ.out]; have HB1 := Lib.hid (hb.out.trans (hb1.mono hb.out.size)); have HG1 := Lib.hid (blk_in hH.out hb1); obtain ⟨g0, g1⟩ := cells2 HG1.out; have lg := lt_of HG1.out; clear hb1) | (go_at_call 54; refine (sin_any _ _ _ _).mono ?_; rintro e w' ⟨rfl, rfl⟩; rw [HQ1.out]))
        go_ret2
        have hno : okF ⟨n, es⟩ ts k = false := HOF.out.symm.trans (HOK.out.trans (by rw [decide_eq_false HQL.out]; simp))
        exact ⟨_, out_ret (by rw [HOF.out]; exact hno), by rw [HRR.out, fireNodeR0_no hno]; exact OwnH.of (own_nil _ _), HB1.out⟩

end Go.Proofs.Ytokhdnejaecejaa
