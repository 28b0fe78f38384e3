/-
  What the program's canFire and areTokensOf answer. No statement of the seat is proved here.
-/
import Derived.Test.YtokhdnejaecejaaGrE
import Derived.Deep.RegionHeld3
import Derived.Deep.CutRange
namespace Go.Proofs.Ytokhdnejaecejaa
open Go.RowKit

set_option maxRecDepth 100000 in
set_option maxHeartbeats 4000000 in
theorem ican_any (n : Int) (c : Value) (es : List Edg) (u : Value) (ts : List Int) (k : Int) (w : World) (h : SlEd w c es) (hg : es.length ≤ 1000000) (hu : Sl w u ts) (hl : ts.length = es.length) :
    Calls Try.prog 60 #[.agg #[.int .i64 n, c], u, .int .i64 k] w fun e w' => e = .returned (.bool (inB 0 (n - 1) k && canL es k ts)) ∧ Below w.heap.size w w' := by
  have HE := Lib.hid h
  have HG := Lib.hid hg
  obtain ⟨a, cap, rfl, _, _, _, hrest⟩ := h
  obtain ⟨ua, uc, rfl, _, _, _, hres2⟩ := hu
  obtain ⟨m, hmm⟩ : ∃ m, m = es.length := ⟨_, rfl⟩
  obtain ⟨tn, htn⟩ : ∃ m, m = ts.length := ⟨_, rfl⟩
  obtain ⟨r, hr⟩ : ∃ r, r = (inB 0 (n - 1) k && canL es k ts) := ⟨_, rfl⟩
  rw [← hr, ← htn]
  rw [← hmm] at HE ⊢
  have HM := Lib.hid hmm
  have HTN := Lib.hid htn
  have HR := Lib.hid hr
  have hmt : tn = m := by rw [hmm, htn]; exact hl
  clear hmm htn hr hl hg
  have hb := Lib.hid ((Below.refl w.heap.size w).al (.cells #[.int .i64 n, .slice a m cap] 29))
  have hH := Lib.hid (hp1 w (.cells #[.int .i64 n, .slice a m cap] 29))
  go_enter Try.func60, Try.ntmps60
  cases q0 : inB 0 (n - 1) k with
  | false =>
    go_wp2_with (go_at_call 102; refine (inode_any _ _ _ _ _ _).mono ?_; rintro e w' ⟨rfl, rfl⟩; rw [q0])
    go_ret
    exact ⟨ret_bool (HR.out.trans (by rw [q0]; rfl)), hb.out.al _⟩
  | true =>
    have HRC := Lib.hid (HR.out.trans (show (inB 0 (n - 1) k && canL es k ts) = canL es k ts by rw [q0]; rfl))
    go_wp2_with (first | (go_at_call 102; refine (inode_any _ _ _ _ _ _).mono ?_; rintro e w1 ⟨rfl, hw1⟩; rw [q0]; have hb1 := (show Below (w.alloc (.cells #[.int .i64 n, .slice a m cap] 29)).heap.size (w.alloc (.cells #[.int .i64 n, .slice a m cap] 29)) w1 by rw [hw1]; exact (Below.refl _ _).al _); have HB1 := Lib.hid (hb.out.trans (hb1.mono hb.out.size)); have HG1 := Lib.hid (blk_in hH.out hb1); clear hb1 hw1) | (go_at_call 78; refine (isdT_any _).mono ?_; rintro e w2 ⟨rfl, hb2⟩; have HB2 := Lib.hid (HB1.out.trans (hb2.mono HB1.out.size)); have HG2 := Lib.hid (blk_in HG1.out hb2); obtain ⟨g0, g1⟩ := cells2 HG2.out; have lg := lt_of HG2.out; have hb2a := (Below.refl w2.heap.size w2).al (.cells #[.func (.func 120) #[] #[], .func (.func 121) #[] #[], .int .i64 1] 108); have HB2A := Lib.hid (HB2.out.trans (hb2a.mono HB2.out.size)); have HS2 := Lib.hid (hp1 w2 (.cells #[.func (.func 120) #[] #[], .func (.func 121) #[] #[], .int .i64 1] 108)); have HG2A := Lib.hid (blk_in HG2.out hb2a); clear hb2 hb2a) | (go_at_call 106; refine (ieatT_any n _ es k _ (HE.out.below HB2A.out) HG.out).mono ?_; rintro e w3 ⟨lv, rfl, ol, hb3⟩; have HB3 := Lib.hid (HB2A.out.trans (hb3.mono HB2A.out.size)); have HS3 := Lib.hid (blk_in HS2.out hb3); have HG3 := Lib.hid (blk_in HG2A.out hb3); have hlo := hb3.size; obtain ⟨xs, hxs⟩ : ∃ L, L = idxs Edg.to es k := ⟨_, rfl⟩; rw [← hxs] at ol; have HXS := Lib.hid hxs; obtain ⟨la, lc, rfl⟩ := ol.shape; obtain ⟨ln, hln⟩ : ∃ z, z = xs.length := ⟨_, rfl⟩; have HLN := Lib.hid hln; have HOL := Lib.hid ol.sl; rw [← hln] at HOL ⊢; clear g0 g1 lg hb3 hlo hxs hln ol))
    have hlb : ln ≤ 1000000 := by have := HLN.out; rw [HXS.out, idxs_len] at this; have := idxN_le Edg.to es k; have := HG.out; omega
    go_loopw [20] (fun i wr => ∃ p : Nat, p ≤ ln ∧ i = .int .i64 p ∧ Hid (∀ q, q < p → ∀ i, (idxN Edg.to es k)[q]? = some i → (edAt es i).tk ≤ ts.getD i 0) ∧ Hid (Sl wr (.slice la ln lc) xs) ∧ Hid (wr.heap[w2.heap.size]? = some (.cells #[.func (.func 120) #[] #[], .func (.func 121) #[] #[], .int .i64 1] 108)) ∧ Hid (wr.heap[w.heap.size]? = some (.cells #[.int .i64 n, .slice a m cap] 29)) ∧ Hid (Below w.heap.size w wr)) (fun i _ => ln - (intOf i).toNat)
    case atStart => exact ⟨0, Nat.zero_le _, rfl, Lib.hid (fun q hq => absurd hq (by omega)), HOL, HS3, HG3, HB3⟩
    case round =>
      obtain ⟨p, hp, rfl, HA, HL, HS, HGR, HB⟩ := hrel
      by_cases hlt : p < ln
      · obtain ⟨i, hi1, hi2, hi3, hi4⟩ := idxs_at (f := Edg.to) (es := es) (k := k) (p := p) (by rw [← HXS.out, ← HLN.out]; exact hlt)
        rw [← HXS.out] at hi2
        have him : i < m := by rw [HM.out]; exact hi3
        have hit : i < tn := by omega
        have HI1 := Lib.hid hi1
        have HI3 := Lib.hid hi3
        have HI4 := Lib.hid hi4
        rcases hrest with rfl | ⟨b, off, rfl, hbl, hcell⟩
        · exact absurd hi3 (by simp)
        · obtain ⟨x, hx⟩ : ∃ x, es[i]? = some x := ⟨_, List.getElem?_eq_getElem hi3⟩
          obtain ⟨e0, e1, e2, e3, e4⟩ := hcell i x hx
          have c0 := (HB.out.cell (p := ⟨b, off + i * 5, none⟩) hbl).trans e0
          have c1 := (HB.out.cell (p := ⟨b, off + i * 5 + 1, none⟩) hbl).trans e1
          have c2 := (HB.out.cell (p := ⟨b, off + i * 5 + 2, none⟩) hbl).trans e2
          have c3 := (HB.out.cell (p := ⟨b, off + i * 5 + 3, none⟩) hbl).trans e3
          have c4 := (HB.out.cell (p := ⟨b, off + i * 5 + 4, none⟩) hbl).trans e4
          have hbl2 : b < wr.heap.size := Nat.lt_of_lt_of_le hbl HB.out.size
          have HX := Lib.hid hx
          obtain ⟨t, htt⟩ : ∃ t, t = ts.getD i 0 := ⟨_, rfl⟩
          have HTT := Lib.hid htt
          have hct : ∃ tb toff, ua = some ⟨tb, toff, none⟩ ∧ tb < w.heap.size ∧ w.cell? ⟨tb, toff + i, none⟩ = some (.int .i64 t) := by
            rcases hres2 with q | ⟨tb, toff, q1, q2, q3⟩
            · have := HTN.out; rw [q] at this; simp at this; omega
            · exact ⟨tb, toff, q1, q2, by rw [htt]; exact q3 i (by rw [← HTN.out]; exact hit)⟩
          obtain ⟨tb, toff, rfl, htb, ht0⟩ := hct
          have htc := (HB.out.cell (p := ⟨tb, toff + i, none⟩) htb).trans ht0
          have htb2 : tb < wr.heap.size := Nat.lt_of_lt_of_le htb HB.out.size
          have hcl : ∃ lb loff, la = some ⟨lb, loff, none⟩ ∧ lb < wr.heap.size ∧ wr.cell? ⟨lb, loff + p, none⟩ = some (.int .i64 (i : Int)) := by
            obtain ⟨a', c', e', _, _, _, q⟩ := HL.out
            simp only [Value.slice.injEq] at e'
            rcases q with q | ⟨lb, loff, q1, q2, q3⟩
            · have := HLN.out; rw [q] at this; simp at this; omega
            · exact ⟨lb, loff, by rw [e'.1]; exact q1, q2, by rw [← hi2]; exact q3 p (by rw [← HLN.out]; exact hlt)⟩
          obtain ⟨lb, loff, rfl, hlb2, hlc⟩ := hcl
          obtain ⟨s0, s1, s2⟩ := cells3 HS.out
          have ls := lt_of HS.out
          obtain ⟨g0, g1⟩ := cells2 HGR.out
          have lg := lt_of HGR.out
          clear hx hcell e0 e1 e2 e3 e4 hi1 hi2 hi3 hi4 htt ht0 hres2
          by_cases hc : t < x.tk
          · have d1 : decide (t < x.tk) = true := decide_eq_true hc
            have HC := Lib.hid hc
            clear hc
            go_wp2_with fail
            go_region_held3 (fun w' => w'.cell? ⟨tb, toff + i, none⟩ = some (.int .i64 t) ∧ w'.cell? ⟨w2.heap.size, 1, none⟩ = some (.func (.func 121) #[] #[]) ∧ w'.cell? ⟨w.heap.size, 1, none⟩ = some (.slice (some ⟨b, off, none⟩) m cap) ∧ w'.cell? ⟨b, off + i * 5, none⟩ = some (.int .i64 x.fr) ∧ w'.cell? ⟨b, off + i * 5 + 1, none⟩ = some (.int .i64 x.to) ∧ w'.cell? ⟨b, off + i * 5 + 2, none⟩ = some (.int .i64 x.mke) ∧ w'.cell? ⟨b, off + i * 5 + 3, none⟩ = some (.int .i64 x.tk) ∧ w'.cell? ⟨b, off + i * 5 + 4, none⟩ = some (.int .i64 x.tok)) (go_keep) (first | (go_at_call 121; refine (icloT2_any x _).mono ?_; rintro e w4 ⟨rfl, hb4⟩; have hs4 := (show Below wr.heap.size wr w4 by first | with_reducible exact hb4 | with_reducible exact cr_d hb4); have HB4 := Lib.hid (HB.out.trans (hs4.mono HB.out.size)); have k0 := (hs4.cell (p := ⟨tb, toff + i, none⟩) htb2).trans htc; have k1 := (hs4.cell (p := ⟨w2.heap.size, 1, none⟩) ls).trans s1; have k2 := (hs4.cell (p := ⟨w.heap.size, 1, none⟩) lg).trans g1; have y0 := (hs4.cell (p := ⟨b, off + i * 5, none⟩) hbl2).trans c0; have y1 := (hs4.cell (p := ⟨b, off + i * 5 + 1, none⟩) hbl2).trans c1; have y2 := (hs4.cell (p := ⟨b, off + i * 5 + 2, none⟩) hbl2).trans c2; have y3 := (hs4.cell (p := ⟨b, off + i * 5 + 3, none⟩) hbl2).trans c3; have y4 := (hs4.cell (p := ⟨b, off + i * 5 + 4, none⟩) hbl2).trans c4; clear hb4 hs4))
            all_goals
              go_wp2_with fail
              go_ret
              exact ⟨ret_bool (HRC.out.trans (canL_no HI3.out HI4.out (by rw [edAt_of HX.out, ← HTT.out]; exact HC.out))), by first | exact HB4.out | exact HB4.out.drew⟩
          · have d1 : decide (t < x.tk) = false := decide_eq_false hc
            have HC := Lib.hid hc
            clear hc
            go_wp2_with fail
            go_region_held3 (fun w' => w'.cell? ⟨tb, toff + i, none⟩ = some (.int .i64 t) ∧ w'.cell? ⟨w2.heap.size, 1, none⟩ = some (.func (.func 121) #[] #[]) ∧ w'.cell? ⟨w.heap.size, 1, none⟩ = some (.slice (some ⟨b, off, none⟩) m cap) ∧ w'.cell? ⟨b, off + i * 5, none⟩ = some (.int .i64 x.fr) ∧ w'.cell? ⟨b, off + i * 5 + 1, none⟩ = some (.int .i64 x.to) ∧ w'.cell? ⟨b, off + i * 5 + 2, none⟩ = some (.int .i64 x.mke) ∧ w'.cell? ⟨b, off + i * 5 + 3, none⟩ = some (.int .i64 x.tk) ∧ w'.cell? ⟨b, off + i * 5 + 4, none⟩ = some (.int .i64 x.tok)) (go_keep) (first | (go_at_call 121; refine (icloT2_any x _).mono ?_; rintro e w4 ⟨rfl, hb4⟩; have hs4 := (show Below wr.heap.size wr w4 by first | with_reducible exact hb4 | with_reducible exact cr_d hb4); have HB4 := Lib.hid (HB.out.trans (hs4.mono HB.out.size)); have HL4 := Lib.hid (HL.out.below hs4); have HS4 := Lib.hid (blk_in HS.out hs4); have HG4 := Lib.hid (blk_in HGR.out hs4); have k0 := (hs4.cell (p := ⟨tb, toff + i, none⟩) htb2).trans htc; have k1 := (hs4.cell (p := ⟨w2.heap.size, 1, none⟩) ls).trans s1; have k2 := (hs4.cell (p := ⟨w.heap.size, 1, none⟩) lg).trans g1; have y0 := (hs4.cell (p := ⟨b, off + i * 5, none⟩) hbl2).trans c0; have y1 := (hs4.cell (p := ⟨b, off + i * 5 + 1, none⟩) hbl2).trans c1; have y2 := (hs4.cell (p := ⟨b, off + i * 5 + 2, none⟩) hbl2).trans c2; have y3 := (hs4.cell (p := ⟨b, off + i * 5 + 3, none⟩) hbl2).trans c3; have y4 := (hs4.cell (p := ⟨b, off + i * 5 + 4, none⟩) hbl2).trans c4; clear hb4 hs4))
            all_goals
              go_wp2_with fail
              go_roundw
              case rel => exact ⟨p + 1, by omega, by go_num, Lib.hid (fun q hq i2 h2 => by
                rcases Nat.lt_or_ge q p with z | z
                · exact HA.out q z i2 h2
                · obtain rfl : q = p := by omega
                  rw [HI1.out] at h2
                  obtain rfl := Option.some.inj h2
                  rw [edAt_of HX.out, ← HTT.out]
                  have := HC.out
                  omega), (by first | exact HL4 | exact Lib.hid (HL4.out.below (Below.refl _ _).drew)), (by first | exact HS4 | exact Lib.hid (blk_in HS4.out (Below.refl _ _).drew)), (by first | exact HG4 | exact Lib.hid (blk_in HG4.out (Below.refl _ _).drew)), (by first | exact HB4 | exact Lib.hid HB4.out.drew)⟩
              case measure => simp [intOf]; omega
      · go_wp2_with fail
        go_ret
        exact ⟨ret_bool (HRC.out.trans (canL_idx (p := p) (by rw [← HXS.out, ← HLN.out]; exact hlt) HA.out)), HB.out⟩


def okToks (m : Nat) (ts : List Int) : Bool := decide (ts.length = m) && ts.all (inB 0 1000000)
set_option maxHeartbeats 800000 in
theorem iare_any (n : Int) (a : Option Addr) (m cap : Nat) (u : Value) (ts : List Int) (w : World) (hm : m ≤ 1000000) (hu : Sl w u ts) :
    Calls Try.prog 59 #[.agg #[.int .i64 n, .slice a m cap], u] w fun e w' => e = .returned (.bool (okToks m ts)) ∧ Below w.heap.size w w' := by
  obtain ⟨ua, uc, rfl, _, hum, _, hrest⟩ := hu
  obtain ⟨tn, htn⟩ : ∃ m, m = ts.length := ⟨_, rfl⟩
  obtain ⟨r, hr⟩ : ∃ r, r = okToks m ts := ⟨_, rfl⟩
  have htm : tn ≤ 9223372036854775807 := by unfold maxLen at hum; omega
  rw [← hr, ← htn]
  have HTN := Lib.hid htn
  have HR := Lib.hid (hr.trans (show okToks m ts = (decide (tn = m) && ts.all (inB 0 1000000)) by rw [htn]; rfl))
  clear htn hr hum
  have hb := Lib.hid ((Below.refl w.heap.size w).al (.cells #[.int .i64 n, .slice a m cap] 29))
  go_enter Try.func59, Try.ntmps59
  by_cases hq : tn = m
  · have HRC := Lib.hid (HR.out.trans (show (decide (tn = m) && ts.all (inB 0 1000000)) = ts.all (inB 0 1000000) by rw [decide_eq_true hq]; rfl))
    subst hq
    go_wp2_with fail
    go_loopw [15] (fun i wr => ∃ k : Nat, k ≤ tn ∧ i = .int .i64 k ∧ Hid ((ts.take k).all (inB 0 1000000) = true) ∧ Hid (Below w.heap.size w wr)) (fun i _ => tn - (intOf i).toNat)
    case atStart => exact ⟨0, Nat.zero_le _, rfl, Lib.hid (by simp), hb⟩
    case round =>
      obtain ⟨k, hk, rfl, HA, HB⟩ := hrel
      by_cases hlt : k < tn
      · rcases hrest with rfl | ⟨b, off, rfl, hbl, hcell⟩
        · exact absurd hlt (by have := HTN.out; simp at this; omega)
        · obtain ⟨x, hx⟩ : ∃ x, x = ts.getD k 0 := ⟨_, rfl⟩
          have hck := (HB.out.cell (p := ⟨b, off + k, none⟩) hbl).trans (hcell k (by rw [← HTN.out]; exact hlt))
          rw [← hx] at hck
          have HX := Lib.hid hx
          have hlk := Lib.hid (show k < ts.length by rw [← HTN.out]; exact hlt)
          clear hx hcell
          by_cases c1 : x < 0
          · have d1 : decide (x < 0) = true := decide_eq_true c1
            have ht := Lib.hid (inB_lo (lo := 0) (hi := 1000000) c1)
            go_wp2_with fail
            go_ret
            exact ⟨ret_bool (HRC.out.trans (all_no hlk.out HX.out ht.out)), HB.out⟩
          · have d1 : decide (x < 0) = false := decide_eq_false c1
            by_cases c2 : x > 1000000
            · have d2 : decide (x > 1000000) = true := decide_eq_true c2
              have d2' : decide (1000000 < x) = true := decide_eq_true c2
              have ht := Lib.hid (inB_hi (lo := 0) (hi := 1000000) c2)
              go_wp2_with fail
              go_ret
              exact ⟨ret_bool (HRC.out.trans (all_no hlk.out HX.out ht.out)), HB.out⟩
            · have d2 : decide (x > 1000000) = false := decide_eq_false c2
              have d2' : decide (1000000 < x) = false := decide_eq_false c2
              have ht := Lib.hid (inB_yes (lo := 0) (hi := 1000000) (n := x) (by omega) (by omega))
              go_wp2_with fail
              go_roundw
              case rel => exact ⟨k + 1, by omega, by go_num, Lib.hid (all_step hlk.out HX.out HA.out ht.out), HB⟩
              case measure => simp [intOf]; omega
      · go_wp2_with fail
        go_ret
        exact ⟨ret_bool (HRC.out.trans (all_end (by rw [← HTN.out]; exact hlt) HA.out)), HB.out⟩
  · have e := Lib.hid (HR.out.trans (show (decide (tn = m) && ts.all (inB 0 1000000)) = false by rw [decide_eq_false hq]; rfl))
    have d1 : ((tn : Int) == (m : Int)) = false := by rw [beq_eq_false_iff_ne]; omega
    have d2 : ((tn : Int) != (m : Int)) = true := by simp; omega
    go_wp2_with fail
    go_ret
    exact ⟨ret_bool e.out, hb.out⟩

end Go.Proofs.Ytokhdnejaecejaa
