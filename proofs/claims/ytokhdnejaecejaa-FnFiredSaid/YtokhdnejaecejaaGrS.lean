/-
  What the model's l7Fire answers. No statement of the seat is proved here.
-/
import Derived.Test.YtokhdnejaecejaaGrP
import Derived.Test.YtokhdnejaecejaaMake
import Derived.Deep.QuietTactic
namespace Go.Proofs.Ytokhdnejaecejaa
open Go.RowKit

def fireR (es : List Edg) (k : Int) (ts : List Int) : List Int := if canL es k ts then fireL es k ts else []
theorem fireR_yes {es : List Edg} {k : Int} {ts : List Int} (h : canL es k ts = true) : fireR es k ts = fireL es k ts := by simp [fireR, h]
theorem fireR_no {es : List Edg} {k : Int} {ts : List Int} (h : canL es k ts = false) : fireR es k ts = [] := by simp [fireR, h]
def upP (Q : Nat → Bool) (p i : Nat) : Bool := decide (i < p) && Q i
theorem upP_zero (Q : Nat → Bool) (i : Nat) : upP Q 0 i = false := by simp [upP]
theorem upP_new (Q : Nat → Bool) (p : Nat) : upP Q p p = false := by simp [upP]
theorem upP_yes {Q : Nat → Bool} {p : Nat} (h : Q p = true) (i : Nat) : upP Q (p + 1) i = (upP Q p i || i == p) := by
  unfold upP
  by_cases q : i = p
  · subst q; simp [h]
  · have : (i == p) = false := by simpa using q
    rw [this, Bool.or_false]
    congr 1
    rw [decide_eq_decide]; omega
theorem upP_no {Q : Nat → Bool} {p : Nat} (h : Q p = false) (i : Nat) : upP Q (p + 1) i = upP Q p i := by
  unfold upP
  by_cases q : i = p
  · subst q; simp [h]
  · congr 1
    rw [decide_eq_decide]; omega
theorem upP_all (Q : Nat → Bool) {p i : Nat} (h : i < p) : upP Q p i = Q i := by simp [upP, h]
theorem out_ret {a : Value} {c d : Bool} (h : d = c) : Ending.returned (.tuple #[a, .bool c]) = .returned (.tuple #[a, .bool d]) := by rw [h]

set_option maxRecDepth 100000 in
set_option maxHeartbeats 16000000 in
theorem sfire_any (n : Int) (c : Value) (es : List Edg) (u : Value) (ts : List Int) (k : Int) (w : World) (h : SlEd w c es) (gd : GoodG ⟨n, es⟩) (hu : Sl w u ts) (hl : ts.length = es.length)
    (hbd : ∀ i, i < ts.length → -1000000000 ≤ ts.getD i 0 ∧ ts.getD i 0 ≤ 1000000000) :
    Calls Try.prog 58 #[.agg #[.int .i64 n, c], u, .int .i64 k] w fun e w' => ∃ v, e = .returned (.tuple #[v, .bool (canL es k ts)]) ∧ Own w.heap.size w' v (fireR es k ts) ∧ Below w.heap.size w w' := by
  have HGD := Lib.hid gd
  have hl16 : es.length ≤ 16 := gd.len
  obtain ⟨a, cap, rfl, _, _, _, hrest⟩ := h
  have HU := Lib.hid hu
  obtain ⟨ua, uc, rfl, _, _, _, _⟩ := hu
  obtain ⟨m, hmm⟩ : ∃ m, m = es.length := ⟨_, rfl⟩
  obtain ⟨tn, htn⟩ : ∃ m, m = ts.length := ⟨_, rfl⟩
  rw [← htn] at HU ⊢
  rw [← hmm] at hl16 ⊢
  have HM := Lib.hid hmm
  have HTN := Lib.hid htn
  have hmt : tn ≤ m ∧ m ≤ tn := by rw [hmm, htn, hl]; omega
  have HBDT := Lib.hid (show ∀ i, i < tn → -1000000010 ≤ ts.getD i 0 ∧ ts.getD i 0 ≤ 1000000010 by intro i hi; have := hbd i (by rw [← htn]; exact hi); omega)
  have HBDM := Lib.hid (show ∀ i, i < tn → -1000000010 ≤ (chg (toK es k) (dTk es) ts).getD i 0 ∧ (chg (toK es k) (dTk es) ts).getD i 0 ≤ 1000000010 by
    intro i hi
    obtain ⟨x, hx⟩ : ∃ x, es[i]? = some x := ⟨_, List.getElem?_eq_getElem (by rw [← hmm]; omega)⟩
    have := (gd.all i x hx).tk
    have hq := hbd i (by rw [← htn]; exact hi)
    rw [chg_at (by rw [← htn]; exact hi)]
    unfold dTk
    rw [edAt_of hx]
    split <;> omega)
  have HLBT := Lib.hid (show ts.length = tn from htn.symm)
  have HLBM := Lib.hid (show (chg (toK es k) (dTk es) ts).length = tn by rw [chg_len]; exact htn.symm)
  have hb := Lib.hid ((Below.refl w.heap.size w).al (.cells #[.int .i64 n, .slice a m cap] 29))
  have hH := Lib.hid (hp1 w (.cells #[.int .i64 n, .slice a m cap] 29))
  clear hmm htn hl gd hbd
  go_enter Try.func58, Try.ntmps58
  go_wp2_with (go_at_call 105; refine (l1copy_any _ ts _ (HU.out.below (hb.out.mono (by simp))) (by have := HTN.out; omega)).mono ?_; rintro e w1 ⟨ov, rfl, ol, hb1⟩; have HGT := Lib.hid (blk_in hH.out hb1); have HBT := Lib.hid (hb.out.trans (hb1.mono hb.out.size)); have HUL := Lib.hid (show ∀ q, ov.ownBlock = some q → w.heap.size < q from fun q e => by have := (ol.lt q e).1; simp at this; omega); obtain ⟨oa, oc, rfl⟩ := ol.shape; have HOT := Lib.hid (show w1.ownsRow w.heap.size 3 1 (.slice oa tn oc) tn (vals ts) by have := row_mono (lo' := w.heap.size) ol (by simp); rw [HTN.out]; exact this); rw [← HTN.out] at HUL ⊢; obtain ⟨g0, g1⟩ := cells2 HGT.out; have lg := lt_of HGT.out; clear ol hb1)
  clear g0 g1 lg
  go_loopw [18] (fun i wr => ∃ p : Nat, p ≤ m ∧ i = .int .i64 p ∧ Hid (wr.ownsRow w.heap.size 3 1 (.slice oa tn oc) tn (vals (chg (upP (toK es k) p) (dTk es) ts))) ∧ Hid (wr.heap[w.heap.size]? = some (.cells #[.int .i64 n, .slice a m cap] 29)) ∧ Hid (Below w.heap.size w wr) ∧ Hid (∀ i, i < p → toK es k i = true → (edAt es i).tk ≤ ts.getD i 0)) (fun i _ => m - (intOf i).toNat)
  case atStart => exact ⟨0, Nat.zero_le _, rfl, Lib.hid (by rw [chg_no (fun i _ => upP_zero _ i)]; exact HOT.out), HGT, HBT, Lib.hid (fun i hi => absurd hi (by omega))⟩
  case round =>
      obtain ⟨p, hp, rfl, HO, HG, HB, HA⟩ := hrel
      by_cases hlt : p < m
      · have hit : p < tn := by omega
        have HPL := Lib.hid (show p < es.length by rw [← HM.out]; exact hlt)
        rcases hrest with rfl | ⟨b, off, rfl, hbl, hcell⟩
        · exact absurd HPL.out (by simp)
        · obtain ⟨x, hx⟩ : ∃ x, es[p]? = some x := ⟨_, List.getElem?_eq_getElem HPL.out⟩
          obtain ⟨e0, e1, e2, e3, e4⟩ := hcell p x hx
          have c0 := (HB.out.cell (p := ⟨b, off + p * 5, none⟩) hbl).trans e0
          have c1 := (HB.out.cell (p := ⟨b, off + p * 5 + 1, none⟩) hbl).trans e1
          have c2 := (HB.out.cell (p := ⟨b, off + p * 5 + 2, none⟩) hbl).trans e2
          have c3 := (HB.out.cell (p := ⟨b, off + p * 5 + 3, none⟩) hbl).trans e3
          have c4 := (HB.out.cell (p := ⟨b, off + p * 5 + 4, none⟩) hbl).trans e4
          have hbl2 : b < wr.heap.size := Nat.lt_of_lt_of_le hbl HB.out.size
          have hxtk : 1 ≤ x.tk ∧ x.tk ≤ 5 := (HGD.out.all p x hx).tk
          have HX := Lib.hid hx
          obtain ⟨t, htt⟩ : ∃ t, t = ts.getD p 0 := ⟨_, rfl⟩
          have HTT := Lib.hid htt
          have htb : -1000000010 ≤ t ∧ t ≤ 1000000010 := by rw [htt]; exact HBDT.out p hit
          have wt : wrap64 (t - x.tk) = t - x.tk := IntWalk.wrap64_in _ (by omega)
          have hbase : p < (ts).length := by rw [HLBT.out]; exact hit
          have hval : (chg (upP (toK es k) p) (dTk es) ts).getD p 0 = t := by rw [chg_at hbase, upP_new, htt]; simp
          obtain ⟨g, rfl⟩ : ∃ g, oa = some ⟨g, 0, none⟩ := by
            rcases HO.out.2 with ⟨_, q⟩ | ⟨g, cap', cur, q, _⟩
            · omega
            · simp only [Value.slice.injEq] at q; exact ⟨g, q.1⟩
          have hgu := HUL.out g rfl
          have hg0 : w.heap.size ≤ g := (World.ownsRow.lt HO.out g rfl).1
          have hgr : g < wr.heap.size := (World.ownsRow.lt HO.out g rfl).2
          have hck : wr.cell? ⟨g, p, none⟩ = some (.int .i64 t) := by
            rw [HO.out.cellAt p (by omega), vals_at (by rw [chg_len]; exact hbase), hval]
          have HDV := Lib.hid (show ts.getD p 0 + dTk es p = t - x.tk by rw [← htt]; unfold dTk; rw [edAt_of hx]; first | rfl | omega)
          have hb1 := (Below.refl wr.heap.size wr).al (.cells #[.int .i64 x.fr, .int .i64 x.to, .int .i64 x.mke, .int .i64 x.tk, .int .i64 x.tok] 62)
          have HB1 := Lib.hid (HB.out.trans (hb1.mono HB.out.size))
          have HG1 := Lib.hid (blk_in HG.out hb1)
          have HO1 := Lib.hid (row_below HO.out hb1)
          have HK1 := Lib.hid ((hb1.cell (p := ⟨g, p, none⟩) hgr).trans hck)
          have HX1 := Lib.hid (hp1 wr (.cells #[.int .i64 x.fr, .int .i64 x.to, .int .i64 x.mke, .int .i64 x.tk, .int .i64 x.tok] 62))
          clear hx hcell e0 e1 e2 e3 e4 htt hbase hval hb1
          by_cases ht : x.to = k
          · have d1 : (x.to == k) = true := by simpa using ht
            have HT := Lib.hid (show (edAt es p).to = k by rw [edAt_of HX.out]; exact ht)
            have hQ : toK es k p = true := by unfold toK; rw [HT.out]; simp
            have HST := Lib.hid (chg_set (P := upP (toK es k) p) (P' := upP (toK es k) (p + 1)) (d := dTk es) (ts := ts) (by rw [HLBT.out]; exact hit) (upP_new _ _) (fun i2 _ => upP_yes hQ i2))
            clear ht hQ
            go_wp2_with fail
            generalize hw4 : wr.alloc (.cells #[.int .i64 x.fr, .int .i64 x.to, .int .i64 x.mke, .int .i64 x.tk, .int .i64 x.tok] 62) = w4
            rw [hw4] at HB1 HG1 HO1 HK1 HX1
            have HB4 := HB1
            have HG4 := HG1
            have HO4 := HO1
            have k4 := HK1.out
            have k5 := HO1.out.frozenAt p
            have k6 : g < w4.heap.size := (World.ownsRow.lt HO1.out g rfl).2
            obtain ⟨y0, y1, y2, y3, y4⟩ := cells5 HX1.out
            have ly := lt_of HX1.out
            clear hw4 HX1 HK1 HO1 HB1 HG1 c0 c1 c2 c3 c4 hck
            by_cases hc : t < x.tk
            · have d2 : decide (t < x.tk) = true := decide_eq_true hc
              have HC := Lib.hid hc
              clear hc
              go_quiet (fail)
              all_goals
                go_wp2_with fail
                go_ret2
                have hno := canL_no HPL.out HT.out (by rw [edAt_of HX.out, ← HTT.out]; exact HC.out)
                exact ⟨_, out_ret hno, by rw [fireR_no hno]; exact own_nil _ _, by first | exact Below.toDraw HB4.out _ | exact HB4.out | exact HB4.out.drew⟩
            · have d2 : decide (t < x.tk) = false := decide_eq_false hc
              have HC := Lib.hid hc
              clear hc
              go_quiet (fail)
              all_goals
                go_wp2_with fail
                go_region_law (fail)
                all_goals
                  go_wp2_with fail
                  go_roundw
                  case rel =>
                    have R := HO4.out.stored p (.int .i64 (t - x.tk))
                    rw [vals_set, ← HDV.out, HST.out] at R
                    have HR := Lib.hid R
                    clear R
                    rw [← HDV.out]
                    refine ⟨p + 1, by omega, by go_num, Lib.hid ?q1, Lib.hid ?q2, Lib.hid ?q3, Lib.hid ?q4⟩
                    case q1 => first | exact HR.out.1 | exact World.ownsRow.drew HR.out.1
                    case q2 => exact (HR.out.2.block _ (by have := lt_of HG4.out; omega) (by intro e; injection e with e; omega)).trans HG4.out
                    case q3 => first | exact (Below.toDraw HB4.out _).setCell (p := ⟨g, p, none⟩) hg0 _ | exact HB4.out.setCell (p := ⟨g, p, none⟩) hg0 _ | exact (HB4.out.setCell (p := ⟨g, p, none⟩) hg0 _).drew | exact ((Below.toDraw HB4.out _).setCell (p := ⟨g, p, none⟩) hg0 _).drew
                    case q4 => exact (fun i2 h2 h3 => by
                      rcases Nat.lt_or_ge i2 p with z | z
                      · exact HA.out i2 z h3
                      · obtain rfl : i2 = p := by omega
                        rw [edAt_of HX.out, ← HTT.out]; have := HC.out; omega)
                  case measure => simp [intOf]; omega
          · have d1 : (x.to == k) = false := by simpa using ht
            have hQ : toK es k p = false := by unfold toK; rw [edAt_of HX.out]; simpa using ht
            clear ht
            go_wp2_with fail
            go_roundw
            case rel => exact ⟨p + 1, by omega, by go_num, Lib.hid (by rw [chg_ext (fun i2 _ => upP_no hQ i2) (fun _ _ _ => rfl)]; exact HO1.out), HG1, HB1, Lib.hid (fun i2 h2 h3 => by
              rcases Nat.lt_or_ge i2 p with z | z
              · exact HA.out i2 z h3
              · obtain rfl : i2 = p := by omega
                rw [hQ] at h3; cases h3)⟩
            case measure => simp [intOf]; omega
      · have e1 := Lib.hid (show chg (upP (toK es k) p) (dTk es) ts = chg (toK es k) (dTk es) ts from chg_ext (fun i hi => upP_all _ (by have := HLBT.out; omega)) (fun _ _ _ => rfl))
        rw [e1.out] at HO

        have HOM := HO
        have HGM := HG
        have HBM := HB
        have HCN := Lib.hid (canL_iff.2 (fun i hi ht => HA.out i (by have := HM.out; omega) ht))
        obtain ⟨g0, g1⟩ := cells2 HGM.out
        have lg := lt_of HGM.out
        go_wp2_with fail
        clear g0 g1 lg HO HG HB HA e1
        go_loopw [48] (fun i wr => ∃ p : Nat, p ≤ m ∧ i = .int .i64 p ∧ Hid (wr.ownsRow w.heap.size 3 1 (.slice oa tn oc) tn (vals (chg (upP (frK es k) p) (dMk es) (chg (toK es k) (dTk es) ts)))) ∧ Hid (wr.heap[w.heap.size]? = some (.cells #[.int .i64 n, .slice a m cap] 29)) ∧ Hid (Below w.heap.size w wr)) (fun i _ => m - (intOf i).toNat)
        case atStart => exact ⟨0, Nat.zero_le _, rfl, Lib.hid (by rw [chg_no (fun i _ => upP_zero _ i)]; exact HOM.out), HGM, HBM⟩
        case round =>
            obtain ⟨p, hp, rfl, HO, HG, HB⟩ := hrel
            by_cases hlt : p < m
            · have hit : p < tn := by omega
              have HPL := Lib.hid (show p < es.length by rw [← HM.out]; exact hlt)
              rcases hrest with rfl | ⟨b, off, rfl, hbl, hcell⟩
              · exact absurd HPL.out (by simp)
              · obtain ⟨x, hx⟩ : ∃ x, es[p]? = some x := ⟨_, List.getElem?_eq_getElem HPL.out⟩
                obtain ⟨e0, e1, e2, e3, e4⟩ := hcell p x hx
                have c0 := (HB.out.cell (p := ⟨b, off + p * 5, none⟩) hbl).trans e0
                have c1 := (HB.out.cell (p := ⟨b, off + p * 5 + 1, none⟩) hbl).trans e1
                have c2 := (HB.out.cell (p := ⟨b, off + p * 5 + 2, none⟩) hbl).trans e2
                have c3 := (HB.out.cell (p := ⟨b, off + p * 5 + 3, none⟩) hbl).trans e3
                have c4 := (HB.out.cell (p := ⟨b, off + p * 5 + 4, none⟩) hbl).trans e4
                have hbl2 : b < wr.heap.size := Nat.lt_of_lt_of_le hbl HB.out.size
                have hxmke : 1 ≤ x.mke ∧ x.mke ≤ 5 := (HGD.out.all p x hx).mke
                have HX := Lib.hid hx
                obtain ⟨t, htt⟩ : ∃ t, t = (chg (toK es k) (dTk es) ts).getD p 0 := ⟨_, rfl⟩
                have HTT := Lib.hid htt
                have htb : -1000000010 ≤ t ∧ t ≤ 1000000010 := by rw [htt]; exact HBDM.out p hit
                have wt : wrap64 (t + x.mke) = t + x.mke := IntWalk.wrap64_in _ (by omega)
                have hbase : p < ((chg (toK es k) (dTk es) ts)).length := by rw [HLBM.out]; exact hit
                have hval : (chg (upP (frK es k) p) (dMk es) (chg (toK es k) (dTk es) ts)).getD p 0 = t := by rw [chg_at hbase, upP_new, htt]; simp
                obtain ⟨g, rfl⟩ : ∃ g, oa = some ⟨g, 0, none⟩ := by
                  rcases HO.out.2 with ⟨_, q⟩ | ⟨g, cap', cur, q, _⟩
                  · omega
                  · simp only [Value.slice.injEq] at q; exact ⟨g, q.1⟩
                have hgu := HUL.out g rfl
                have hg0 : w.heap.size ≤ g := (World.ownsRow.lt HO.out g rfl).1
                have hgr : g < wr.heap.size := (World.ownsRow.lt HO.out g rfl).2
                have hck : wr.cell? ⟨g, p, none⟩ = some (.int .i64 t) := by
                  rw [HO.out.cellAt p (by omega), vals_at (by rw [chg_len]; exact hbase), hval]
                have HDV := Lib.hid (show (chg (toK es k) (dTk es) ts).getD p 0 + dMk es p = t + x.mke by rw [← htt]; unfold dMk; rw [edAt_of hx])
                have hb1 := (Below.refl wr.heap.size wr).al (.cells #[.int .i64 x.fr, .int .i64 x.to, .int .i64 x.mke, .int .i64 x.tk, .int .i64 x.tok] 62)
                have HB1 := Lib.hid (HB.out.trans (hb1.mono HB.out.size))
                have HG1 := Lib.hid (blk_in HG.out hb1)
                have HO1 := Lib.hid (row_below HO.out hb1)
                have HK1 := Lib.hid ((hb1.cell (p := ⟨g, p, none⟩) hgr).trans hck)
                have HX1 := Lib.hid (hp1 wr (.cells #[.int .i64 x.fr, .int .i64 x.to, .int .i64 x.mke, .int .i64 x.tk, .int .i64 x.tok] 62))
                clear hx hcell e0 e1 e2 e3 e4 htt hbase hval hb1
                by_cases ht : x.fr = k
                · have d1 : (x.fr == k) = true := by simpa using ht
                  have HT := Lib.hid (show (edAt es p).fr = k by rw [edAt_of HX.out]; exact ht)
                  have hQ : frK es k p = true := by unfold frK; rw [HT.out]; simp
                  have HST := Lib.hid (chg_set (P := upP (frK es k) p) (P' := upP (frK es k) (p + 1)) (d := dMk es) (ts := (chg (toK es k) (dTk es) ts)) (by rw [HLBM.out]; exact hit) (upP_new _ _) (fun i2 _ => upP_yes hQ i2))
                  clear ht hQ
                  go_wp2_with fail
                  generalize hw4 : wr.alloc (.cells #[.int .i64 x.fr, .int .i64 x.to, .int .i64 x.mke, .int .i64 x.tk, .int .i64 x.tok] 62) = w4
                  rw [hw4] at HB1 HG1 HO1 HK1 HX1
                  have HB4 := HB1
                  have HG4 := HG1
                  have HO4 := HO1
                  have k4 := HK1.out
                  have k5 := HO1.out.frozenAt p
                  have k6 : g < w4.heap.size := (World.ownsRow.lt HO1.out g rfl).2
                  obtain ⟨y0, y1, y2, y3, y4⟩ := cells5 HX1.out
                  have ly := lt_of HX1.out
                  clear hw4 HX1 HK1 HO1 HB1 HG1 c0 c1 c2 c3 c4 hck
                  go_wp2_with fail
                  go_region_law (fail)
                  all_goals
                    go_wp2_with fail
                    go_roundw
                    case rel =>
                      have R := HO4.out.stored p (.int .i64 (t + x.mke))
                      rw [vals_set, ← HDV.out, HST.out] at R
                      have HR := Lib.hid R
                      clear R
                      rw [← HDV.out]
                      refine ⟨p + 1, by omega, by go_num, Lib.hid ?q1, Lib.hid ?q2, Lib.hid ?q3⟩
                      case q1 => first | exact HR.out.1 | exact World.ownsRow.drew HR.out.1
                      case q2 => exact (HR.out.2.block _ (by have := lt_of HG4.out; omega) (by intro e; injection e with e; omega)).trans HG4.out
                      case q3 => first | exact (Below.toDraw HB4.out _).setCell (p := ⟨g, p, none⟩) hg0 _ | exact HB4.out.setCell (p := ⟨g, p, none⟩) hg0 _ | exact (HB4.out.setCell (p := ⟨g, p, none⟩) hg0 _).drew | exact ((Below.toDraw HB4.out _).setCell (p := ⟨g, p, none⟩) hg0 _).drew
                    case measure => simp [intOf]; omega
                · have d1 : (x.fr == k) = false := by simpa using ht
                  have hQ : frK es k p = false := by unfold frK; rw [edAt_of HX.out]; simpa using ht
                  clear ht
                  go_wp2_with fail
                  go_roundw
                  case rel => exact ⟨p + 1, by omega, by go_num, Lib.hid (by rw [chg_ext (fun i2 _ => upP_no hQ i2) (fun _ _ _ => rfl)]; exact HO1.out), HG1, HB1⟩
                  case measure => simp [intOf]; omega
            · have e1 := Lib.hid (show chg (upP (frK es k) p) (dMk es) (chg (toK es k) (dTk es) ts) = chg (frK es k) (dMk es) (chg (toK es k) (dTk es) ts) from chg_ext (fun i hi => upP_all _ (by have := HLBM.out; omega)) (fun _ _ _ => rfl))
              rw [e1.out] at HO

              go_wp2_with fail
              go_ret2
              refine ⟨_, out_ret HCN.out, ?_, HB.out⟩
              rw [fireR_yes HCN.out]
              show Own w.heap.size _ _ (chg (frK es k) (dMk es) (chg (toK es k) (dTk es) ts))
              unfold Own
              rw [chg_len, chg_len, ← HTN.out]
              exact HO.out

end Go.Proofs.Ytokhdnejaecejaa
