/-
  FeedNetwork of the program. No statement of the seat is proved here.
-/
import Derived.Test.YtkeoefbkeommhaaNetH
namespace Go.Proofs.Ytkeoefbkeommhaa
open Go.RowKit

set_option maxHeartbeats 800000 in
theorem ilinkof_any (v : Value) (n : Net) (p : Int) (w : World) (h : NetV w v n) :
    Calls Try.prog 51 #[v, .int .i64 p] w fun e w' => e = .returned (.bool (decide (0 ≤ p ∧ p < (n.links.length : Int)))) ∧ Below w.heap.size w w' := by
  obtain ⟨c, d, rfl, hp, hl⟩ := h
  have hlen := hl.len
  obtain ⟨pa, pcap, rfl⟩ := hl.shape
  obtain ⟨m, hm⟩ : ∃ m, m = n.links.length := ⟨_, rfl⟩
  obtain ⟨r, hr⟩ : ∃ r, r = decide (0 ≤ p ∧ p < (n.links.length : Int)) := ⟨_, rfl⟩
  rw [← hr]
  rw [← hm] at hr hlen ⊢
  have HR := Lib.hid hr
  clear hm hp hl hr
  have hb := Lib.hid ((Below.refl w.heap.size w).al (.cells #[c, .slice pa m pcap] 31))
  by_cases h0 : 0 ≤ p
  · by_cases h1 : p < (m : Int)
    · have hh := Lib.hid (show r = true by rw [HR.out]; exact decide_eq_true ⟨h0, h1⟩)
      go_enter Try.func51, Try.ntmps51
      go_wp2_with fail
      go_ret
      exact ⟨ret_bool (by first | (rw [hh.out]; done) | (rw [hh.out]; simp [h0, h1]; done) | simp_all), hb.out⟩
    · have hh := Lib.hid (show r = false by rw [HR.out]; exact decide_eq_false (fun q => h1 q.2))
      go_enter Try.func51, Try.ntmps51
      go_wp2_with fail
      go_ret
      exact ⟨ret_bool (by first | (rw [hh.out]; done) | (rw [hh.out]; simp [h1]; done) | simp_all), hb.out⟩
  · have hh := Lib.hid (show r = false by rw [HR.out]; exact decide_eq_false (fun q => h0 q.1))
    go_enter Try.func51, Try.ntmps51
    go_wp2_with fail
    go_ret
    exact ⟨ret_bool (by first | (rw [hh.out]; done) | (rw [hh.out]; simp [h0]; done) | simp_all), hb.out⟩


set_option maxRecDepth 100000 in
set_option maxHeartbeats 16000000 in
theorem ifeed_any (v : Value) (n : Net) (k : Int) (u : Value) (ts : List Int) (w : World) (h : NetV w v n) (hwk : (Lit.int .i64 k).wf = true) (hu : Sl w u ts) (hts : ts.length ≤ 1048576) :
    Calls Try.prog 16 #[v, .int .i64 k, u] w fun e w' => ∃ r, e = .returned (.tuple #[r, .bool (feedB n k ts)]) ∧ NetR w.heap.size w'.heap.size w' r (feedNetworkR0 n k ts) ∧ Below w.heap.size w w' := by
  have CN := Lib.hid (fun (W : World) (hw : Below w.heap.size w W) => iisnet_any v n W (h.below hw))
  have CC := Lib.hid (fun (W : World) (hw : Below w.heap.size w W) (hok : okN n = true) => icopynet_any v n W (h.below hw) (ok_small hok))
  have CK0 := fun (W : World) (hw : Below w.heap.size w W) => ilinkof_any v n k W (h.below hw)
  have HWF := Lib.hid h.wf
  obtain ⟨pv, lv, rfl, hp, hl⟩ := h
  have LP := hp.len
  have LL := hl.len
  have HL := Lib.hid hl
  have HU := Lib.hid hu
  have HTS := Lib.hid hts
  obtain ⟨la, lcap, rfl⟩ := hl.shape
  obtain ⟨pa, pcap, rfl⟩ := hp.shape
  obtain ⟨ta, tcap, rfl⟩ := hu.shape
  obtain ⟨m, hm⟩ : ∃ m, m = n.progs.length := ⟨_, rfl⟩
  obtain ⟨ll, hll⟩ : ∃ m, m = n.links.length := ⟨_, rfl⟩
  obtain ⟨tl, htl⟩ : ∃ m, m = ts.length := ⟨_, rfl⟩
  rw [← hm, ← hll] at CN CC CK0 ⊢
  rw [← hm] at LP
  rw [← hll] at HL LL
  rw [← htl] at HU ⊢
  have NP := Lib.hid hm
  have NL := Lib.hid hll
  have NT := Lib.hid htl
  clear hp hl hm hll hu htl hts
  obtain ⟨R0, hR0⟩ : ∃ R, R = feedNetworkR0 n k ts := ⟨_, rfl⟩
  obtain ⟨R1, hR1⟩ : ∃ R, R = feedB n k ts := ⟨_, rfl⟩
  have HR0 := Lib.hid hR0
  have HR1 := Lib.hid hR1
  rw [← hR0, ← hR1]
  clear hR0 hR1
  have hb := Lib.hid (((Below.refl w.heap.size w).al (.cells #[.slice pa m pcap, .slice la ll lcap] 31)).al (.cells #[.slice none 0 0, .slice none 0 0] 31))
  have hH := Lib.hid (hp21 w (.cells #[.slice pa m pcap, .slice la ll lcap] 31) (.cells #[.slice none 0 0, .slice none 0 0] 31))
  have hH1 := Lib.hid (hp2 w (.cells #[.slice pa m pcap, .slice la ll lcap] 31) (.cells #[.slice none 0 0, .slice none 0 0] 31))
  obtain ⟨i0, hi, hz0, hz1, hz2⟩ := info_parts info
  cases ho : okN n with
  | false =>
    rw [ho] at CN
    have HF := Lib.hid (HR1.out.trans (feedB_no1 ho))
    have HE := Lib.hid (HR0.out.trans (feed_no (feedB_no1 ho)))
    clear ho
    obtain rfl := HE.out
    obtain rfl := HF.out
    go_enter Try.func16, Try.ntmps16
    go_wp2_with (go_at_call 50; with_reducible refine (CN.out _ hb.out).mono ?_; rintro e w2 ⟨rfl, hb1⟩; have HB2 := Lib.hid (hb.out.trans (hb1.mono hb.out.size)); have G2 := Lib.hid (blk_in hH.out hb1); have J2 := Lib.hid (blk_in hH1.out hb1); obtain ⟨k0, k1⟩ := cells2 G2.out; have gl := lt_of G2.out; obtain ⟨r0, r1⟩ := cells2 J2.out; have rl := lt_of J2.out; have rz0 := fr_of J2.out 0; have rz1 := fr_of J2.out 1; clear hb1)
    refine bodyPost_ret (v := .tuple #[.agg #[.slice none 0 0, .slice none 0 0], .bool false]) (by simp [results, Try.results16, go_sem, r0, r1]) rfl ⟨_, rfl, netR_nil _ _ _, ?_⟩
    first | exact HB2.out | exact (HB2.out.setCell (by simp) _).setCell (by simp) _
  | true =>
    rw [ho] at CN
    have HOK := Lib.hid ho
    have hll30 : ll ≤ 30 := by rw [NL.out]; exact (okN_len ho).2.1
    have hm12 : m ≤ 12 := by rw [NP.out]; exact (okN_len ho).1
    clear ho
    by_cases hk : 0 ≤ k ∧ k < (ll : Int)
    case neg =>
      have CK := Lib.hid (fun (W : World) (hw : Below w.heap.size w W) => (show Calls Try.prog 51 #[.agg #[.slice pa m pcap, .slice la ll lcap], .int .i64 k] W fun e w' => e = .returned (.bool false) ∧ Below W.heap.size W w' by have q := CK0 W hw; rw [decide_eq_false hk] at q; exact q))
      have hnk : feedB n k ts = false := feedB_no2 (by rw [← NL.out]; exact hk)
      have HF := Lib.hid (HR1.out.trans hnk)
      have HE := Lib.hid (HR0.out.trans (feed_no hnk))
      clear hnk hk CK0
      obtain rfl := HE.out
      obtain rfl := HF.out
      go_enter Try.func16, Try.ntmps16
      go_wp2_with (first | (go_at_call 51; with_reducible refine (CK.out _ HB1.out).mono ?_; rintro e w2 ⟨rfl, hb2⟩; have HB2 := Lib.hid (HB1.out.trans (hb2.mono HB1.out.size)); have G2 := Lib.hid (blk_in G1.out hb2); have J2 := Lib.hid (blk_in J1.out hb2); clear k0 k1 gl r0 r1 rl rz0 rz1; obtain ⟨k0, k1⟩ := cells2 G2.out; have gl := lt_of G2.out; obtain ⟨r0, r1⟩ := cells2 J2.out; have rl := lt_of J2.out; have rz0 := fr_of J2.out 0; have rz1 := fr_of J2.out 1; clear hb2) | (go_at_call 50; with_reducible refine (CN.out _ hb.out).mono ?_; rintro e w1 ⟨rfl, hb1⟩; have HB1 := Lib.hid (hb.out.trans (hb1.mono hb.out.size)); have G1 := Lib.hid (blk_in hH.out hb1); have J1 := Lib.hid (blk_in hH1.out hb1); obtain ⟨k0, k1⟩ := cells2 G1.out; have gl := lt_of G1.out; obtain ⟨r0, r1⟩ := cells2 J1.out; have rl := lt_of J1.out; have rz0 := fr_of J1.out 0; have rz1 := fr_of J1.out 1; clear hb1))
      refine bodyPost_ret (v := .tuple #[.agg #[.slice none 0 0, .slice none 0 0], .bool false]) (by simp [results, Try.results16, go_sem, r0, r1]) rfl ⟨_, rfl, netR_nil _ _ _, ?_⟩
      first | exact HB2.out | exact (HB2.out.setCell (by simp) _).setCell (by simp) _
    have CK := Lib.hid (fun (W : World) (hw : Below w.heap.size w W) => (show Calls Try.prog 51 #[.agg #[.slice pa m pcap, .slice la ll lcap], .int .i64 k] W fun e w' => e = .returned (.bool true) ∧ Below W.heap.size W w' by have q := CK0 W hw; rw [decide_eq_true hk] at q; exact q))
    obtain ⟨kk, rfl⟩ : ∃ kk : Nat, k = kk := ⟨k.toNat, by omega⟩
    have hkl : kk < ll := by omega
    clear hk CK0
    obtain ⟨l, hx⟩ : ∃ l, n.links[kk]? = some l := ⟨_, List.getElem?_eq_getElem (by rw [← NL.out]; exact hkl)⟩
    have HX := Lib.hid hx
    have HL4 := Lib.hid (isS_len (tok_isS HOK.out (List.mem_of_getElem? hx)))
    have HF := Lib.hid (HR1.out.trans ((feedB_at HOK.out hx).trans (appB_eq _ _)))
    obtain ⟨lb, lo, tv, rfl, hlb0, f0, f1, f2, f3, f4, es⟩ := HL.out.atb hx
    have ES := Lib.hid es
    obtain ⟨tka, tkc, rfl⟩ := es.shape
    have CAP0 := fun (W : World) (hw : Below w.heap.size w W) => iappend_any (.slice tka l.tok.length tkc) l.tok (.slice ta tl tcap) ts W (ES.out.below hw) (HU.out.below hw)
    obtain ⟨tk, htk⟩ : ∃ z, z = l.tok.length := ⟨_, rfl⟩
    have HTK := Lib.hid htk
    rw [← htk] at f4 CAP0
    have CE := Lib.hid (fun (W : World) (hw : Below w.heap.size w W) => (show W.cell? ⟨lb, lo + kk * 5 + 4, none⟩ = some (.slice tka tk tkc) ∧ lb < W.heap.size from ⟨(hw.cell (p := ⟨lb, lo + kk * 5 + 4, none⟩) hlb0).trans f4, Nat.lt_of_lt_of_le hlb0 hw.size⟩))
    clear hx es htk f0 f1 f2 f3 f4 hlb0
    have ik1 : (0 : Int) ≤ (kk : Int) := by omega
    have ik2 : (kk : Int) < (ll : Int) := by omega
    cases ha : appB l.tok ts with
    | false =>
      rw [ha] at CAP0
      have CAP := Lib.hid CAP0
      have HF2 := Lib.hid (HF.out.trans ha)
      have HE2 := Lib.hid (HR0.out.trans (feed_no ((feedB_at HOK.out HX.out).trans ((appB_eq _ _).trans ha))))
      clear ha CAP0
      obtain rfl := HE2.out
      obtain rfl := HF2.out
      go_enter Try.func16, Try.ntmps16
      go_upto_region 3 with (first | (go_at_call 51; with_reducible refine (CK.out _ HB1.out).mono ?_; rintro e w2 ⟨rfl, hb2⟩; have HB2 := Lib.hid (HB1.out.trans (hb2.mono HB1.out.size)); have G2 := Lib.hid (blk_in G1.out hb2); have J2 := Lib.hid (blk_in J1.out hb2); clear k0 k1 gl r0 r1 rl rz0 rz1; obtain ⟨k0, k1⟩ := cells2 G2.out; have gl := lt_of G2.out; obtain ⟨r0, r1⟩ := cells2 J2.out; have rl := lt_of J2.out; have rz0 := fr_of J2.out 0; have rz1 := fr_of J2.out 1; clear hb2) | (go_at_call 50; with_reducible refine (CN.out _ hb.out).mono ?_; rintro e w1 ⟨rfl, hb1⟩; have HB1 := Lib.hid (hb.out.trans (hb1.mono hb.out.size)); have G1 := Lib.hid (blk_in hH.out hb1); have J1 := Lib.hid (blk_in hH1.out hb1); obtain ⟨k0, k1⟩ := cells2 G1.out; have gl := lt_of G1.out; obtain ⟨r0, r1⟩ := cells2 J1.out; have rl := lt_of J1.out; have rz0 := fr_of J1.out 0; have rz1 := fr_of J1.out 1; clear hb1))
      obtain ⟨ce, cl⟩ := CE.out _ HB2.out
      go_wp2_with (go_at_call 52; (refine (CAP.out _ HB2.out).mono ?_); rintro e w3 ⟨r, rfl, hO, hb3⟩; have HB3 := Lib.hid (HB2.out.trans (hb3.mono HB2.out.size)); have HZ3 := Lib.hid (show w2.heap.size ≤ w3.heap.size from hb3.size); have G3 := Lib.hid (blk_in G2.out hb3); have J3 := Lib.hid (blk_in J2.out hb3); have HO3 := Lib.hid hO; obtain ⟨fa, fc, rfl⟩ := hO.shape; clear hO hb3 k0 k1 gl r0 r1 rl rz0 rz1; obtain ⟨k0, k1⟩ := cells2 G3.out; have gl := lt_of G3.out; obtain ⟨r0, r1⟩ := cells2 J3.out; have rl := lt_of J3.out; have rz0 := fr_of J3.out 0; have rz1 := fr_of J3.out 1)
      refine bodyPost_ret (v := .tuple #[.agg #[.slice none 0 0, .slice none 0 0], .bool false]) (by simp [results, Try.results16, go_sem, r0, r1]) rfl ⟨_, rfl, netR_nil _ _ _, ?_⟩
      first | exact HB3.out | exact (HB3.out.setCell (by simp) _).setCell (by simp) _
    | true =>
      rw [ha] at CAP0
      have CAP := Lib.hid CAP0
      have HF2 := Lib.hid (HF.out.trans ha)
      have HAS := Lib.hid (app5 ha)
      have HE2 := Lib.hid (HR0.out.trans ((feed_yes ((feedB_at HOK.out HX.out).trans ((appB_eq _ _).trans ha))).trans (by rw [feedL_at HX.out, Int.toNat_natCast])))
      clear ha CAP0
      obtain rfl := HF2.out
      go_enter Try.func16, Try.ntmps16
      go_upto_region 3 with (first | (go_at_call 51; with_reducible refine (CK.out _ HB1.out).mono ?_; rintro e w2 ⟨rfl, hb2⟩; have HB2 := Lib.hid (HB1.out.trans (hb2.mono HB1.out.size)); have G2 := Lib.hid (blk_in G1.out hb2); have J2 := Lib.hid (blk_in J1.out hb2); clear k0 k1 gl r0 r1 rl rz0 rz1; obtain ⟨k0, k1⟩ := cells2 G2.out; have gl := lt_of G2.out; obtain ⟨r0, r1⟩ := cells2 J2.out; have rl := lt_of J2.out; have rz0 := fr_of J2.out 0; have rz1 := fr_of J2.out 1; clear hb2) | (go_at_call 50; with_reducible refine (CN.out _ hb.out).mono ?_; rintro e w1 ⟨rfl, hb1⟩; have HB1 := Lib.hid (hb.out.trans (hb1.mono hb.out.size)); have G1 := Lib.hid (blk_in hH.out hb1); have J1 := Lib.hid (blk_in hH1.out hb1); obtain ⟨k0, k1⟩ := cells2 G1.out; have gl := lt_of G1.out; obtain ⟨r0, r1⟩ := cells2 J1.out; have rl := lt_of J1.out; have rz0 := fr_of J1.out 0; have rz1 := fr_of J1.out 1; clear hb1))
      obtain ⟨ce, cl⟩ := CE.out _ HB2.out
      go_upto_region 7 with (first | (go_at_call 52; (refine (CAP.out _ HB2.out).mono ?_); rintro e w3 ⟨r, rfl, hO, hb3⟩; have HB3 := Lib.hid (HB2.out.trans (hb3.mono HB2.out.size)); have HZ3 := Lib.hid (show w2.heap.size ≤ w3.heap.size from hb3.size); have G3 := Lib.hid (blk_in G2.out hb3); have J3 := Lib.hid (blk_in J2.out hb3); have HO3 := Lib.hid hO; obtain ⟨fa, fc, rfl⟩ := hO.shape; clear hO hb3 k0 k1 gl r0 r1 rl rz0 rz1; obtain ⟨k0, k1⟩ := cells2 G3.out; have gl := lt_of G3.out; obtain ⟨r0, r1⟩ := cells2 J3.out; have rl := lt_of J3.out; have rz0 := fr_of J3.out 0; have rz1 := fr_of J3.out 1) | (go_at_call 53; (with_reducible refine (CC.out _ HB3.out HOK.out).mono ?_); rintro e w4 ⟨r, rfl, hN, hb4⟩; have HB4 := Lib.hid (HB3.out.trans (hb4.mono HB3.out.size)); have HZ4 := Lib.hid (show w3.heap.size ≤ w4.heap.size from hb4.size); have J4 := Lib.hid (blk_in J3.out hb4); have HO4 := Lib.hid (HO3.out.below hb4); obtain ⟨pv', lv', rfl, hP, hL, hwf⟩ := hN; have HPR := Lib.hid hP; have HLR := Lib.hid hL; obtain ⟨ca, cb, rfl⟩ := hP.shape; obtain ⟨cc, cd, rfl⟩ := hL.shape; rw [← NP.out] at HPR; rw [← NL.out] at HLR; rw [← NP.out, ← NL.out]; clear hb4 hP hL hwf))
      clear k0 k1 gl r0 r1 rl rz0 rz1 ce cl
      generalize hW : w4.alloc (.cells #[.slice ca m cb, .slice cc ll cd] 31) = W5
      have HC5 := Lib.hid (show Below w4.heap.size w4 W5 by rw [← hW]; exact (Below.refl _ _).al _)
      have O5 := Lib.hid (show W5.heap[w4.heap.size]? = some (.cells #[.slice ca m cb, .slice cc ll cd] 31) by rw [← hW]; exact hp1 _ _)
      clear hW
      have HB5 := Lib.hid (HB4.out.trans (HC5.out.mono HB4.out.size))
      have J5 := Lib.hid (blk_in J4.out HC5.out)
      have HPR5 := Lib.hid (HPR.out.below HC5.out)
      have HO5 := Lib.hid (HO4.out.below HC5.out)
      obtain ⟨us, hVL, hFm, h3⟩ := HLR.out.below HC5.out
      have hvl := hVL.len
      obtain ⟨u0, hu0⟩ : ∃ u0, us[kk]? = some u0 := ⟨_, List.getElem?_eq_getElem (by have := (List.getElem?_eq_some_iff.1 HX.out).1; omega)⟩
      obtain ⟨LB, pcx, hpe, hpb1, hpb2, hpl, hpt, hpf, c0, c1, c2, c3, c4⟩ := hVL.at hu0 HX.out
      simp only [Value.slice.injEq] at hpe
      obtain ⟨rfl, hlen, rfl⟩ := hpe
      have HVL := Lib.hid hVL
      have HFM := Lib.hid hFm
      have H3 := Lib.hid h3
      have HPB := Lib.hid (And.intro hpb1 hpb2)
      have HPT := Lib.hid hpt
      have f4 := hpf (kk * 5 + 4)
      have HU0L := Lib.hid (List.getElem?_eq_some_iff.1 hu0).1
      have HFB := Lib.hid (show ∀ q, (Value.slice fa (appendStreamR0 l.tok ts).length fc).ownBlock = some q → q < w3.heap.size from fun q e => (HO3.out.lt q e).2)
      clear hVL hFm h3 hvl hlen hpb1 hpb2 hpt hpf c0 c1 c2 c3 hu0
      obtain ⟨o0, o1⟩ := cells2 O5.out
      have ol := lt_of O5.out
      go_upto_region 8 with fail
      have hne : LB ≠ w4.heap.size := by have := HPB.out; omega
      obtain ⟨W6, hW6⟩ : ∃ W, W = W5.setCell ⟨LB, kk * 5 + 4, none⟩ (.slice fa (appendStreamR0 l.tok ts).length fc) := ⟨_, rfl⟩
      rw [← hW6]
      have HLR6 := Lib.hid (show LnksR w2.heap.size w4.heap.size W6 (.slice (some ⟨LB, 0, none⟩) ll cd) (n.links.set kk { l with tok := appendStreamR0 l.tok ts }) by
        rw [hW6]
        exact LnksR.put HVL.out HFM.out (fun x hx q e => H3.out x hx q e) HX.out HO5.out (fun q e => Nat.lt_of_lt_of_le (HFB.out q e) HZ4.out) HZ3.out (Nat.le_refl _) (fun i v hv hi => by
          cases e : v.ownBlock with
          | none => exact .inl e
          | some q =>
            right
            rw [e]
            intro e2
            have a1 := ((HFM.out.get hv).lt q e).1
            have a2 := HFB.out q e2.symm
            omega) HPT.out)
      have HPR6 := Lib.hid (show PrgsR w3.heap.size w4.heap.size W6 (.slice ca m cb) n.progs by
        rw [hW6]
        exact HPR5.out.outT ((OutT.refl 68 3 w3.heap.size w4.heap.size W5).setC (p := ⟨LB, kk * 5 + 4, none⟩) HPB.out.1 HPB.out.2 HPT.out _) (by decide) (by decide) (by decide) (by decide))
      have O6 := Lib.hid (show W6.heap[w4.heap.size]? = some (.cells #[.slice ca m cb, .slice (some ⟨LB, 0, none⟩) ll cd] 31) by rw [hW6]; exact setR_blkN O5.out (Ne.symm hne) _)
      have J6 := Lib.hid (show W6.heap[w.heap.size + 1]? = some (.cells #[.slice none 0 0, .slice none 0 0] 31) by rw [hW6]; exact setR_blkN J5.out (by have := HPB.out; have := lt_of J3.out; omega) _)
      have HB6 := Lib.hid (show Below w.heap.size w W6 by rw [hW6]; exact HB5.out.setCell (p := ⟨LB, kk * 5 + 4, none⟩) (by have := HPB.out.1; have := HB3.out.size; show w.heap.size ≤ LB; omega) _)
      have HS6 := Lib.hid (show w4.heap.size ≤ W6.heap.size by rw [hW6, World.size_setCell]; exact HC5.out.size)
      clear hW6 o0 o1 ol c4 f4 hpl hne
      obtain ⟨o0, o1⟩ := cells2 O6.out
      have ol := lt_of O6.out
      obtain ⟨r0, r1⟩ := cells2 J6.out
      have rl := lt_of J6.out
      have rz0 := fr_of J6.out 0
      have rz1 := fr_of J6.out 1
      go_wp2_with fail
      have q := set2_all J6.out (.slice ca m cb) (.slice (some ⟨LB, 0, none⟩) ll cd)
      refine bodyPost_ret (v := .tuple #[.agg #[.slice ca m cb, .slice (some ⟨LB, 0, none⟩) ll cd], .bool true]) (by simp [results, Try.results16, go_sem, r0, r1]) rfl ⟨_, rfl, ?_, ?_⟩
      · rw [HE2.out]
        have z : NetR w2.heap.size w4.heap.size W6 (.agg #[.slice ca m cb, .slice (some ⟨LB, 0, none⟩) ll cd]) (feedN n kk l ts) := ⟨_, _, rfl, HPR6.out.mono HZ3.out (Nat.le_refl _), by have q := HLR6.out; rw [HAS.out] at q; exact q, wf_set HWF.out HX.out⟩
        exact (z.out q.2 (.inr (by have := lt_of J2.out; omega))).mono HB2.out.size (Nat.le_trans HS6.out q.2.size)
      · exact q.2.below HB6.out HB6.out.size (by omega)
end Go.Proofs.Ytkeoefbkeommhaa
