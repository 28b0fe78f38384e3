/-
  FeedNetwork of the model and of the program. No statement of the seat is proved here.
-/
import Derived.Test.YtkeoefbkeommhaaNetG
import Derived.Test.YtkeoefbkeommhaaActs
namespace Go.Proofs.Ytkeoefbkeommhaa
open Go.RowKit

theorem Sl.srcN {w : World} {a : Option Addr} {n cap : Nat} {xs : List Int} (h : Sl w (.slice a n cap) xs) : n = xs.length ∧ (a = none → n = 0 ∧ cap = 0) ∧ (∀ ad, a = some ad → ∀ j y, (vals xs)[j]? = some y → w.cell? (ad.add j) = some y) ∧ (vals xs).length = n * 1 := by
  have h0 := h
  obtain ⟨a', cap', hv, h1, h2, h3, hr⟩ := h
  simp only [Value.slice.injEq] at hv
  obtain ⟨rfl, rfl, rfl⟩ := hv
  refine ⟨rfl, fun e => ⟨by have := h3 e; omega, h3 e⟩, fun ad e j y hy => ?_, by rw [vals_len]; omega⟩
  subst e
  exact h0.src.2 j y hy
theorem grow_drew {w w' : World} {row : Option Nat} (h : (World.drew w).grownBy w' row) : w.grownBy w' row := ⟨h.os, h.tape, h.output, h.size, h.block⟩
theorem LnksR.put2 {lo hi lo' hi' k LB m c : Nat} {w : World} {u' : Value} {us : List Value} {ls : List Lnk} {l : Lnk} {ys : List Int} (hv : VL lo hi w (.slice (some ⟨LB, 0, none⟩) m c) us ls) (hF : Fam lo' w (us.set k u') ((ls.map Lnk.tok).set k ys)) (h3 : ∀ x ∈ us, ∀ q, x.ownBlock = some q → q < hi')
    (hx : ls[k]? = some l) (hb : ∀ q, u'.ownBlock = some q → q < hi') (hlo : lo' ≤ lo) (hhi : hi ≤ hi') (ht : Typed w LB 68) :
    LnksR lo' hi' (w.setCell ⟨LB, k * 5 + 4, none⟩ u') (.slice (some ⟨LB, 0, none⟩) m c) (ls.set k { l with tok := ys }) := by
  have hk := (List.getElem?_eq_some_iff.1 hx).1
  have v4 := hv.set4 hx u'
  have v5 : VL lo hi (w.setCell ⟨LB, k * 5 + 4, none⟩ u') (.slice (some ⟨LB, 0, none⟩) m c) (us.set k u') (ls.set k { l with tok := ys }) := by
    have q := v4
    rw [← set_same hx] at q
    exact VL.row q (List.getElem?_set_self hk) ⟨rfl, rfl, rfl, rfl⟩
  refine ⟨us.set k u', v5.mono hlo hhi, ?_, fun x hx q e => ?_⟩
  · rw [List.map_set]
    exact hF.setT ht (by decide) _
  · rcases List.mem_or_eq_of_mem_set hx with hx | rfl
    · exact h3 x hx q e
    · exact hb q e
theorem wf_set {ls : List Lnk} {k : Nat} {l : Lnk} {ys : List Int} (h : ∀ l ∈ ls, wfL l) (hx : ls[k]? = some l) : ∀ y ∈ ls.set k { l with tok := ys }, wfL y := by
  intro y hy
  rcases List.mem_or_eq_of_mem_set hy with hy | rfl
  · exact h y hy
  · exact h l (List.mem_of_getElem? hx)
theorem feedB_no1 {n : Net} {k : Int} {ts : List Int} (h : okN n = false) : feedB n k ts = false := by unfold feedB; rw [h]; rfl
theorem feedB_no2 {n : Net} {k : Int} {ts : List Int} (h : ¬ (0 ≤ k ∧ k < (n.links.length : Int))) : feedB n k ts = false := by unfold feedB; rw [decide_eq_false h]; simp
theorem feedB_at {n : Net} {k : Nat} {l : Lnk} {ts : List Int} (h : okN n = true) (hx : n.links[k]? = some l) : feedB n (k : Int) ts = isS (l.tok ++ ts) := by
  unfold feedB
  have hk := (List.getElem?_eq_some_iff.1 hx).1
  rw [h, decide_eq_true (by omega), feedL_at hx]; rfl

set_option maxRecDepth 100000 in
set_option maxHeartbeats 16000000 in
theorem sfeed_any (v : Value) (n : Net) (k : Int) (u : Value) (ts : List Int) (w : World) (h : NetV w v n) (hwk : (Lit.int .i64 k).wf = true) (hu : Sl w u ts) (hts : ts.length ≤ 1048576) :
    Calls Try.prog 13 #[v, .int .i64 k, u] w fun e w' => ∃ r, e = .returned (.tuple #[r, .bool (feedB n k ts)]) ∧ NetR w.heap.size w'.heap.size w' r (feedNetworkR0 n k ts) ∧ Below w.heap.size w w' := by
  have CN := Lib.hid (fun (W : World) (hw : Below w.heap.size w W) => sisnet_any v n W (h.below hw))
  have CC := Lib.hid (fun (W : World) (hw : Below w.heap.size w W) (hok : okN n = true) => sl3copy_any v n W (h.below hw) (ok_small hok))
  have HWF := Lib.hid h.wf
  obtain ⟨pv, lv, rfl, hp, hl⟩ := h
  have LP := hp.len
  have LL := hl.len
  have HL := Lib.hid hl
  have HU := Lib.hid hu
  have HTS := Lib.hid hts
  obtain ⟨la, lcap, rfl⟩ := hl.shape
  obtain ⟨pa, pcap, rfl⟩ := hp.shape
  obtain ⟨ta, tcap, rfl⟩ := hu.shape
  obtain ⟨m, hm⟩ : ∃ m, m = n.progs.length := ⟨_, rfl⟩
  obtain ⟨ll, hll⟩ : ∃ m, m = n.links.length := ⟨_, rfl⟩
  obtain ⟨tl, htl⟩ : ∃ m, m = ts.length := ⟨_, rfl⟩
  rw [← hm, ← hll] at CN CC ⊢
  rw [← hm] at LP
  rw [← hll] at HL LL
  rw [← htl] at HU ⊢
  have NP := Lib.hid hm
  have NL := Lib.hid hll
  have NT := Lib.hid htl
  clear hp hl hm hll hu htl hts
  obtain ⟨R0, hR0⟩ : ∃ R, R = feedNetworkR0 n k ts := ⟨_, rfl⟩
  obtain ⟨R1, hR1⟩ : ∃ R, R = feedB n k ts := ⟨_, rfl⟩
  have HR0 := Lib.hid hR0
  have HR1 := Lib.hid hR1
  rw [← hR0, ← hR1]
  clear hR0 hR1
  have hb := Lib.hid (((Below.refl w.heap.size w).al (.cells #[.slice pa m pcap, .slice la ll lcap] 31)).al (.cells #[.slice none 0 0, .slice none 0 0] 31))
  have hH := Lib.hid (hp21 w (.cells #[.slice pa m pcap, .slice la ll lcap] 31) (.cells #[.slice none 0 0, .slice none 0 0] 31))
  have hH1 := Lib.hid (hp2 w (.cells #[.slice pa m pcap, .slice la ll lcap] 31) (.cells #[.slice none 0 0, .slice none 0 0] 31))
  obtain ⟨i0, hi, hz0, hz1, hz2⟩ := info_parts info
  cases ho : okN n with
  | false =>
    rw [ho] at CN
    have HF := Lib.hid (HR1.out.trans (feedB_no1 ho))
    have HE := Lib.hid (HR0.out.trans (feed_no (feedB_no1 ho)))
    clear ho
    obtain rfl := HE.out
    obtain rfl := HF.out
    go_enter Try.func13, Try.ntmps13
    go_wp2_with (go_at_call 45; with_reducible refine (CN.out _ hb.out).mono ?_; rintro e w2 ⟨rfl, hb1⟩; have HB2 := Lib.hid (hb.out.trans (hb1.mono hb.out.size)); have G2 := Lib.hid (blk_in hH.out hb1); have J2 := Lib.hid (blk_in hH1.out hb1); obtain ⟨k0, k1⟩ := cells2 G2.out; have gl := lt_of G2.out; obtain ⟨r0, r1⟩ := cells2 J2.out; have rl := lt_of J2.out; have rz0 := fr_of J2.out 0; have rz1 := fr_of J2.out 1; clear hb1)
    refine bodyPost_ret (v := .tuple #[.agg #[.slice none 0 0, .slice none 0 0], .bool false]) (by simp [results, Try.results13, go_sem, r0, r1]) rfl ⟨_, rfl, netR_nil _ _ _, ?_⟩
    first | exact HB2.out | exact (HB2.out.setCell (by simp) _).setCell (by simp) _
  | true =>
    rw [ho] at CN
    have HOK := Lib.hid ho
    have hll30 : ll ≤ 30 := by rw [NL.out]; exact (okN_len ho).2.1
    have hm12 : m ≤ 12 := by rw [NP.out]; exact (okN_len ho).1
    clear ho
    have hw1 : wrap64 ((ll : Int) - 1) = (ll : Int) - 1 := IntWalk.wrap64_in _ (by omega)
    have CI0 := fun (W : World) => sin_any k 0 ((ll : Int) - 1) W
    by_cases hk : 0 ≤ k ∧ k ≤ (ll : Int) - 1
    case neg =>
      have CI := Lib.hid (fun (W : World) => (show Calls Try.prog 46 #[.int .i64 k, .int .i64 0, .int .i64 ((ll : Int) - 1)] W fun e w' => e = .returned (.bool false) ∧ W = w' by have q := CI0 W; rw [show inB 0 ((ll : Int) - 1) k = false from decide_eq_false hk] at q; exact q))
      have hnk : feedB n k ts = false := feedB_no2 (by rw [← NL.out]; omega)
      have HF := Lib.hid (HR1.out.trans hnk)
      have HE := Lib.hid (HR0.out.trans (feed_no hnk))
      clear hk hnk CI0
      obtain rfl := HE.out
      obtain rfl := HF.out
      go_enter Try.func13, Try.ntmps13
      go_wp2_with (first | (go_at_call 46; with_reducible refine (CI.out _).mono ?_; rintro e w3 ⟨rfl, rfl⟩) | (go_at_call 45; with_reducible refine (CN.out _ hb.out).mono ?_; rintro e w2 ⟨rfl, hb1⟩; have HB2 := Lib.hid (hb.out.trans (hb1.mono hb.out.size)); have G2 := Lib.hid (blk_in hH.out hb1); have J2 := Lib.hid (blk_in hH1.out hb1); obtain ⟨k0, k1⟩ := cells2 G2.out; have gl := lt_of G2.out; obtain ⟨r0, r1⟩ := cells2 J2.out; have rl := lt_of J2.out; have rz0 := fr_of J2.out 0; have rz1 := fr_of J2.out 1; clear hb1))
      refine bodyPost_ret (v := .tuple #[.agg #[.slice none 0 0, .slice none 0 0], .bool false]) (by simp [results, Try.results13, go_sem, r0, r1]) rfl ⟨_, rfl, netR_nil _ _ _, ?_⟩
      first | exact HB2.out | exact (HB2.out.setCell (by simp) _).setCell (by simp) _
    have CI := Lib.hid (fun (W : World) => (show Calls Try.prog 46 #[.int .i64 k, .int .i64 0, .int .i64 ((ll : Int) - 1)] W fun e w' => e = .returned (.bool true) ∧ W = w' by have q := CI0 W; rw [show inB 0 ((ll : Int) - 1) k = true from decide_eq_true hk] at q; exact q))
    obtain ⟨kk, rfl⟩ : ∃ kk : Nat, k = kk := ⟨k.toNat, by omega⟩
    have hkl : kk < ll := by omega
    obtain ⟨l, hx⟩ : ∃ l, n.links[kk]? = some l := ⟨_, List.getElem?_eq_getElem (by rw [← NL.out]; exact hkl)⟩
    have HX := Lib.hid hx
    have HL4 := Lib.hid (isS_len (tok_isS HOK.out (List.mem_of_getElem? hx)))
    have HF := Lib.hid (HR1.out.trans (feedB_at HOK.out hx))
    have HOF := Lib.hid (okN_feed HOK.out hx ts)
    clear hk hx CI0
    go_enter Try.func13, Try.ntmps13
    go_upto_region 4 with (first | (go_at_call 46; with_reducible refine (CI.out _).mono ?_; rintro e w3 ⟨rfl, rfl⟩) | (go_at_call 45; with_reducible refine (CN.out _ hb.out).mono ?_; rintro e w2 ⟨rfl, hb1⟩; have HB2 := Lib.hid (hb.out.trans (hb1.mono hb.out.size)); have G2 := Lib.hid (blk_in hH.out hb1); have J2 := Lib.hid (blk_in hH1.out hb1); obtain ⟨k0, k1⟩ := cells2 G2.out; have gl := lt_of G2.out; obtain ⟨r0, r1⟩ := cells2 J2.out; have rl := lt_of J2.out; have rz0 := fr_of J2.out 0; have rz1 := fr_of J2.out 1; clear hb1) | (go_at_call 47; (with_reducible refine (CC.out _ HB2.out HOK.out).mono ?_); rintro e w4 ⟨r, rfl, hN, hb4⟩; have HB4 := Lib.hid (HB2.out.trans (hb4.mono HB2.out.size)); have HZ4 := Lib.hid (show w2.heap.size ≤ w4.heap.size from hb4.size); have J4 := Lib.hid (blk_in J2.out hb4); obtain ⟨pv', lv', rfl, hP, hL, hwf⟩ := hN; have HPR := Lib.hid hP; have HLR := Lib.hid hL; obtain ⟨ca, cb, rfl⟩ := hP.shape; obtain ⟨cc, cd, rfl⟩ := hL.shape; rw [← NP.out] at HPR; rw [← NL.out] at HLR; rw [← NP.out, ← NL.out]; clear hb4 hP hL hwf))
    clear k0 k1 gl r0 r1 rl rz0 rz1
    generalize hW : w4.alloc (.cells #[.slice ca m cb, .slice cc ll cd] 31) = W5
    have HC5 := Lib.hid (show Below w4.heap.size w4 W5 by rw [← hW]; exact (Below.refl _ _).al _)
    have O5 := Lib.hid (show W5.heap[w4.heap.size]? = some (.cells #[.slice ca m cb, .slice cc ll cd] 31) by rw [← hW]; exact hp1 _ _)
    clear hW
    have HB5 := Lib.hid (HB4.out.trans (HC5.out.mono HB4.out.size))
    have J5 := Lib.hid (blk_in J4.out HC5.out)
    have HPR5 := Lib.hid (HPR.out.below HC5.out)
    obtain ⟨us, hVL, hFm, h3⟩ := HLR.out.below HC5.out
    have hvl := hVL.len
    obtain ⟨u0, hu0⟩ : ∃ u0, us[kk]? = some u0 := ⟨_, List.getElem?_eq_getElem (by have := (List.getElem?_eq_some_iff.1 HX.out).1; omega)⟩
    obtain ⟨LB, pcx, hpe, hpb1, hpb2, hpl, hpt, hpf, c0, c1, c2, c3, c4⟩ := hVL.at hu0 HX.out
    simp only [Value.slice.injEq] at hpe
    obtain ⟨rfl, hlen, rfl⟩ := hpe
    have hrow := hFm.own kk u0 l.tok hu0 (by rw [List.getElem?_map, HX.out]; rfl)
    have HROW := Lib.hid hrow
    have HVL := Lib.hid hVL
    have HFM := Lib.hid hFm
    have H3 := Lib.hid h3
    have HU0 := Lib.hid hu0
    have HPB := Lib.hid (And.intro hpb1 hpb2)
    have HPT := Lib.hid hpt
    have f4 := hpf (kk * 5 + 4)
    clear hVL hFm h3 hvl hlen hpb1 hpb2 hpt hpf c0 c1 c2 c3
    obtain ⟨ua, uc, rfl⟩ := hrow.shape
    clear hrow hu0
    obtain ⟨tk, htk⟩ : ∃ z, z = l.tok.length := ⟨_, rfl⟩
    have HTK := Lib.hid htk
    rw [← htk] at c4 HROW HU0
    clear htk
    obtain ⟨o0, o1⟩ := cells2 O5.out
    have ol := lt_of O5.out
    have HUS := Lib.hid (HU.out.below HB5.out)
    obtain ⟨hx0, hn, hc, hln⟩ := HUS.out.srcN
    have HN := Lib.hid hn
    have HC := Lib.hid hc
    have HLN := Lib.hid hln
    clear hx0 hn hc hln
    have ik1 : (0 : Int) ≤ (kk : Int) := by omega
    have ik2 : (kk : Int) < (ll : Int) := by omega
    have HROWD := Lib.hid (show (World.drew W5).ownsRow w2.heap.size 3 1 (.slice ua tk uc) tk (vals l.tok) from by have q := HROW.out; unfold Own at q; rw [← HTK.out] at q; exact q)
    have HCD := Lib.hid (show ∀ ad, ta = some ad → ∀ j y, (vals ts)[j]? = some y → (World.drew W5).cell? (ad.add j) = some y from HC.out)
    have HRB := Lib.hid (show ∀ q, (Value.slice ua tk uc).ownBlock = some q → w2.heap.size ≤ q ∧ q < w4.heap.size from fun q e => ⟨(HROW.out.lt q e).1, H3.out _ (List.mem_of_getElem? HU0.out) q e⟩)
    go_cut [7] from 24 (fun s7 wr => s7 = .bool false ∧ Hid (LnksR w2.heap.size wr.heap.size wr (.slice (some ⟨LB, 0, none⟩) ll cd) (n.links.set kk { l with tok := l.tok ++ ts })) ∧ Hid (PrgsR w2.heap.size w4.heap.size wr (.slice ca m cb) n.progs) ∧ Hid (wr.heap[w4.heap.size]? = some (.cells #[.slice ca m cb, .slice (some ⟨LB, 0, none⟩) ll cd] 31)) ∧ Hid (wr.heap[w.heap.size + 1]? = some (.cells #[.slice none 0 0, .slice none 0 0] 31)) ∧ Hid (Below w.heap.size w wr) ∧ Hid (W5.heap.size ≤ wr.heap.size))
    case first =>
      go_region_law (refine step_app_src Try.underlying26 hi hz0 hz1 hz2 rfl (by decide) rfl (.tmp 32) (.tmp 33) (by rfl) (by rfl) (lo := w2.heap.size) (v := .slice ua tk uc) (n := tk) (L := vals l.tok) (by rfl) (by rfl) HROWD.out HN.out HCD.out HLN.out (vals_one ts) (by have := HTS.out; have := NT.out; have := HTK.out; have := HL4.out; unfold maxLen; omega) (by have := HTS.out; have := NT.out; have := HTK.out; have := HL4.out; omega) (show w2.heap.size ≤ W5.heap.size by have := HC5.out.size; have := HZ4.out; omega) ?_; intro v' W6 hown hgrow hat; have hg6 : W5.grownBy W6 _ := grow_drew hgrow; have HG6 := Lib.hid hg6; have HAT := Lib.hid (show v'.ownBlock = (Value.slice ua tk uc).ownBlock ∨ v'.ownBlock = some W5.heap.size from hat); have HOWN := Lib.hid (show Own w2.heap.size W6 v' (l.tok ++ ts) by unfold Own; rw [List.length_append, vals_app, ← HTK.out, ← NT.out]; exact hown); have V6 := Lib.hid (HVL.out.keep (w' := W6) (fun B cur _ _ q => grown_keep q (by decide) HROW.out hg6)); obtain ⟨LB2, pc2, hpe2, _, _, hpl6, hpt6, hpf6, _, _, _, _, c6⟩ := V6.out.at HU0.out HX.out; simp only [Value.slice.injEq, Option.some.injEq, Addr.mk.injEq, and_true] at hpe2; obtain ⟨rfl, hml, rfl⟩ := hpe2; clear hml; have HPT6 := Lib.hid hpt6; have g6 := hpf6 (kk * 5 + 4); have O6 := Lib.hid ((hg6.block w4.heap.size (lt_of O5.out) (fun e => by have := (HRB.out _ e.symm).2; omega)).trans O5.out); obtain ⟨q0, q1⟩ := cells2 O6.out; have ql := lt_of O6.out; obtain ⟨xa, xc, rfl⟩ := row_shape hown; clear hown hgrow hat hg6 hpt6 hpf6)
      all_goals (
        go_wp2_with fail
        go_meet
        case rel =>
          have hne : LB ≠ w4.heap.size := by have := HPB.out; omega
          have hs := HG6.out.size
          have hc5 := HC5.out.size
          have hz4 := HZ4.out
          refine ⟨rfl, Lib.hid ?_, Lib.hid ?_, Lib.hid (setR_blkN O6.out (Ne.symm hne) _), Lib.hid (setR_blkN ((HG6.out.block _ (lt_of J5.out) (fun e => by have := (HRB.out _ e.symm).1; have := lt_of J2.out; omega)).trans J5.out) (by have := HPB.out; have := lt_of J2.out; omega) _), Lib.hid ?_, Lib.hid (by simp; exact hs)⟩
          · refine LnksR.put2 V6.out ?_ (fun x hx q e => Nat.lt_of_lt_of_le (H3.out x hx q e) (by simp; omega)) HX.out (fun q e => by have := (HOWN.out.lt q e).2; simpa using this) (Nat.le_refl _) (by simp; omega) HPT6.out
            exact HFM.out.upd HU0.out (fun y ys hy ha => hy.kept HG6.out ha) HOWN.out (HAT.out.imp id (fun e q h => by rw [e] at h; obtain rfl := Option.some.inj h; exact Nat.le_refl _))
          · exact HPR5.out.outT ((OutT.grown (OutT.refl 68 3 w2.heap.size w4.heap.size W5) HG6.out (fun q e => ⟨(HRB.out q e).1, (HRB.out q e).2, row_typed HROW.out q e⟩)).setC (p := ⟨LB, kk * 5 + 4, none⟩) HPB.out.1 HPB.out.2 HPT6.out _) (by decide) (by decide) (by decide) (by decide)
          · exact (HB5.out.grown HG6.out (by have := HB2.out.size; omega) (fun q e => by have := (HRB.out q e).1; have := HB2.out.size; omega)).setCell (p := ⟨LB, kk * 5 + 4, none⟩) (by have := HPB.out.1; have := HB2.out.size; show w.heap.size ≤ LB; omega) _)
    rename World => w6
    obtain ⟨rfl, HLR6, HPR6, O6, J6, HB6, HS6⟩ := hcut
    have HNR := Lib.hid (show NetR w2.heap.size w6.heap.size w6 (.agg #[.slice ca m cb, .slice (some ⟨LB, 0, none⟩) ll cd]) (feedN n kk l ts) from ⟨_, _, rfl, HPR6.out.mono (Nat.le_refl _) (by have := HS6.out; have := HC5.out.size; omega), HLR6.out, wf_set HWF.out HX.out⟩)
    have CN2 := Lib.hid (fun (W : World) (hw : Below w6.heap.size w6 W) => sisnet_any _ _ W (HNR.out.v.below hw))
    rw [HOF.out] at CN2
    clear o0 o1 ol c4 f4 hpl
    obtain ⟨o0, o1⟩ := cells2 O6.out
    have ol := lt_of O6.out
    cases hs : isS (l.tok ++ ts) with
    | false =>
      rw [hs] at CN2
      have HF2 := Lib.hid (HF.out.trans hs)
      have HE2 := Lib.hid (HR0.out.trans (feed_no ((feedB_at HOK.out HX.out).trans hs)))
      clear hs
      obtain rfl := HE2.out
      obtain rfl := HF2.out
      go_wp2_with (go_at_call 45; with_reducible refine (CN2.out _ (Below.refl _ _)).mono ?_; rintro e w7 ⟨rfl, hb7⟩; have HC7 := Lib.hid hb7; have HB7 := Lib.hid (HB6.out.trans (hb7.mono HB6.out.size)); have J7 := Lib.hid (blk_in J6.out hb7); have O7 := Lib.hid (blk_in O6.out hb7); obtain ⟨s0, s1⟩ := cells2 O7.out; have sl := lt_of O7.out; obtain ⟨r0, r1⟩ := cells2 J7.out; have rl := lt_of J7.out; have rz0 := fr_of J7.out 0; have rz1 := fr_of J7.out 1; clear hb7)
      refine bodyPost_ret (v := .tuple #[.agg #[.slice none 0 0, .slice none 0 0], .bool false]) (by simp [results, Try.results13, go_sem, r0, r1]) rfl ⟨_, rfl, netR_nil _ _ _, ?_⟩
      first | exact HB7.out | exact (HB7.out.setCell (by simp) _).setCell (by simp) _
    | true =>
      rw [hs] at CN2
      have HF2 := Lib.hid (HF.out.trans hs)
      have HE2 := Lib.hid (HR0.out.trans ((feed_yes ((feedB_at HOK.out HX.out).trans hs)).trans (by rw [feedL_at HX.out, Int.toNat_natCast])))
      clear hs
      obtain rfl := HF2.out
      go_wp2_with (go_at_call 45; with_reducible refine (CN2.out _ (Below.refl _ _)).mono ?_; rintro e w7 ⟨rfl, hb7⟩; have HC7 := Lib.hid hb7; have HB7 := Lib.hid (HB6.out.trans (hb7.mono HB6.out.size)); have J7 := Lib.hid (blk_in J6.out hb7); have O7 := Lib.hid (blk_in O6.out hb7); obtain ⟨s0, s1⟩ := cells2 O7.out; have sl := lt_of O7.out; obtain ⟨r0, r1⟩ := cells2 J7.out; have rl := lt_of J7.out; have rz0 := fr_of J7.out 0; have rz1 := fr_of J7.out 1; clear hb7)
      have q := set2_all J7.out (.slice ca m cb) (.slice (some ⟨LB, 0, none⟩) ll cd)
      refine bodyPost_ret (v := .tuple #[.agg #[.slice ca m cb, .slice (some ⟨LB, 0, none⟩) ll cd], .bool true]) (by simp [results, Try.results13, go_sem, r0, r1]) rfl ⟨_, rfl, ?_, ?_⟩
      · rw [HE2.out]
        exact ((HNR.out.below HC7.out).out q.2 (.inr (by have := lt_of J2.out; omega))).mono HB2.out.size (Nat.le_trans HC7.out.size q.2.size)
      · exact q.2.below HB7.out HB7.out.size (by omega)
end Go.Proofs.Ytkeoefbkeommhaa
