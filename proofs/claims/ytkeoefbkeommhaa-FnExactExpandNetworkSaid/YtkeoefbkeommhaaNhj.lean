/-
  FeedNetwork of the model and of the program. No statement of the seat is proved here.
  A chain of processes: when it is valid, its rows of links; rows of programs of the call's own. No statement of the seat is proved here.
  validCopy and ChainNetwork of the program. No statement of the seat is proved here.
-/
import Derived.Test.YtkeoefbkeommhaaNetG
import Derived.Test.YtkeoefbkeommhaaActs
namespace Go.Proofs.Ytkeoefbkeommhaa
open Go.RowKit

theorem Sl.srcN {w : World} {a : Option Addr} {n cap : Nat} {xs : List Int} (h : Sl w (.slice a n cap) xs) : n = xs.length ∧ (a = none → n = 0 ∧ cap = 0) ∧ (∀ ad, a = some ad → ∀ j y, (vals xs)[j]? = some y → w.cell? (ad.add j) = some y) ∧ (vals xs).length = n * 1 := by
  have h0 := h
  obtain ⟨a', cap', hv, h1, h2, h3, hr⟩ := h
  simp only [Value.slice.injEq] at hv
  obtain ⟨rfl, rfl, rfl⟩ := hv
  refine ⟨rfl, fun e => ⟨by have := h3 e; omega, h3 e⟩, fun ad e j y hy => ?_, by rw [vals_len]; omega⟩
  subst e
  exact h0.src.2 j y hy
theorem grow_drew {w w' : World} {row : Option Nat} (h : (World.drew w).grownBy w' row) : w.grownBy w' row := ⟨h.os, h.tape, h.output, h.size, h.block⟩
theorem LnksR.put2 {lo hi lo' hi' k LB m c : Nat} {w : World} {u' : Value} {us : List Value} {ls : List Lnk} {l : Lnk} {ys : List Int} (hv : VL lo hi w (.slice (some ⟨LB, 0, none⟩) m c) us ls) (hF : Fam lo' w (us.set k u') ((ls.map Lnk.tok).set k ys)) (h3 : ∀ x ∈ us, ∀ q, x.ownBlock = some q → q < hi')
    (hx : ls[k]? = some l) (hb : ∀ q, u'.ownBlock = some q → q < hi') (hlo : lo' ≤ lo) (hhi : hi ≤ hi') (ht : Typed w LB 68) :
    LnksR lo' hi' (w.setCell ⟨LB, k * 5 + 4, none⟩ u') (.slice (some ⟨LB, 0, none⟩) m c) (ls.set k { l with tok := ys }) := by
  have hk := (List.getElem?_eq_some_iff.1 hx).1
  have v4 := hv.set4 hx u'
  have v5 : VL lo hi (w.setCell ⟨LB, k * 5 + 4, none⟩ u') (.slice (some ⟨LB, 0, none⟩) m c) (us.set k u') (ls.set k { l with tok := ys }) := by
    have q := v4
    rw [← set_same hx] at q
    exact VL.row q (List.getElem?_set_self hk) ⟨rfl, rfl, rfl, rfl⟩
  refine ⟨us.set k u', v5.mono hlo hhi, ?_, fun x hx q e => ?_⟩
  · rw [List.map_set]
    exact hF.setT ht (by decide) _
  · rcases List.mem_or_eq_of_mem_set hx with hx | rfl
    · exact h3 x hx q e
    · exact hb q e
theorem wf_set {ls : List Lnk} {k : Nat} {l : Lnk} {ys : List Int} (h : ∀ l ∈ ls, wfL l) (hx : ls[k]? = some l) : ∀ y ∈ ls.set k { l with tok := ys }, wfL y := by
  intro y hy
  rcases List.mem_or_eq_of_mem_set hy with hy | rfl
  · exact h y hy
  · exact h l (List.mem_of_getElem? hx)
theorem feedB_no1 {n : Net} {k : Int} {ts : List Int} (h : okN n = false) : feedB n k ts = false := by unfold feedB; rw [h]; rfl
theorem feedB_no2 {n : Net} {k : Int} {ts : List Int} (h : ¬ (0 ≤ k ∧ k < (n.links.length : Int))) : feedB n k ts = false := by unfold feedB; rw [decide_eq_false h]; simp
theorem feedB_at {n : Net} {k : Nat} {l : Lnk} {ts : List Int} (h : okN n = true) (hx : n.links[k]? = some l) : feedB n (k : Int) ts = isS (l.tok ++ ts) := by
  unfold feedB
  have hk := (List.getElem?_eq_some_iff.1 hx).1
  rw [h, decide_eq_true (by omega), feedL_at hx]; rfl

set_option maxRecDepth 100000 in
set_option maxHeartbeats 16000000 in
theorem sfeed_any (v : Value) (n : Net) (k : Int) (u : Value) (ts : List Int) (w : World) (h : NetV w v n) (hwk : (Lit.int .i64 k).wf = true) (hu : Sl w u ts) (hts : ts.length ≤ 1048576) :
    Calls Try.prog 13 #[v, .int .i64 k, u] w fun e w' => ∃ r, e = .returned (.tuple #[r, .bool (feedB n k ts)]) ∧ NetR w.heap.size w'.heap.size w' r (feedNetworkR0 n k ts) ∧ Below w.heap.size w w' := by
  have CN := Lib.hid (fun (W : World) (hw : Below w.heap.size w W) => sisnet_any v n W (h.below hw))
  have CC := Lib.hid (fun (W : World) (hw : Below w.heap.size w W) (hok : okN n = true) => sl3copy_any v n W (h.below hw) (ok_small hok))
  have HWF := Lib.hid h.wf
  obtain ⟨pv, lv, rfl, hp, hl⟩ := h
  have LP := hp.len
  have LL := hl.len
  have HL := Lib.hid hl
  have HU := Lib.hid hu
  have HTS := Lib.hid hts
  obtain ⟨la, lcap, rfl⟩ := hl.shape
  obtain ⟨pa, pcap, rfl⟩ := hp.shape
  obtain ⟨ta, tcap, rfl⟩ := hu.shape
  obtain ⟨m, hm⟩ : ∃ m, m = n.progs.length := ⟨_, rfl⟩
  obtain ⟨ll, hll⟩ : ∃ m, m = n.links.length := ⟨_, rfl⟩
  obtain ⟨tl, htl⟩ : ∃ m, m = ts.length := ⟨_, rfl⟩
  rw [← hm, ← hll] at CN CC ⊢
  rw [← hm] at LP
  rw [← hll] at HL LL
  rw [← htl] at HU ⊢
  have NP := Lib.hid hm
  have NL := Lib.hid hll
  have NT := Lib.hid htl
  clear hp hl hm hll hu htl hts
  obtain ⟨R0, hR0⟩ : ∃ R, R = feedNetworkR0 n k ts := ⟨_, rfl⟩
  obtain ⟨R1, hR1⟩ : ∃ R, R = feedB n k ts := ⟨_, rfl⟩
  have HR0 := Lib.hid hR0
  have HR1 := Lib.hid hR1
  rw [← hR0, ← hR1]
  clear hR0 hR1
  have hb := Lib.hid (((Below.refl w.heap.size w).al (.cells #[.slice pa m pcap, .slice la ll lcap] 31)).al (.cells #[.slice none 0 0, .slice none 0 0] 31))
  have hH := Lib.hid (hp21 w (.cells #[.slice pa m pcap, .slice la ll lcap] 31) (.cells #[.slice none 0 0, .slice none 0 0] 31))
  have hH1 := Lib.hid (hp2 w (.cells #[.slice pa m pcap, .slice la ll lcap] 31) (.cells #[.slice none 0 0, .slice none 0 0] 31))
  obtain ⟨i0, hi, hz0, hz1, hz2⟩ := info_parts info
  cases ho : okN n with
  | false =>
    rw [ho] at CN
    have HF := Lib.hid (HR1.out.trans (feedB_no1 ho))
    have HE := Lib.hid (HR0.out.trans (feed_no (feedB_no1 ho)))
    clear ho
    obtain rfl := HE.out
    obtain rfl := HF.out
    go_enter Try.func13, Try.ntmps13
    go_wp2_with (go_at_call 45; with_reducible refine (CN.out _ hb.out).mono ?_; rintro e w2 ⟨rfl, hb1⟩; have HB2 := Lib.hid (hb.out.trans (hb1.mono hb.out.size)); have G2 := Lib.hid (blk_in hH.out hb1); have J2 := Lib.hid (blk_in hH1.out hb1); obtain ⟨k0, k1⟩ := cells2 G2.out; have gl := lt_of G2.out; obtain ⟨r0, r1⟩ := cells2 J2.out; have rl := lt_of J2.out; have rz0 := fr_of J2.out 0; have rz1 := fr_of J2.out 1; clear hb1)
    refine bodyPost_ret (v := .tuple #[.agg #[.slice none 0 0, .slice none 0 0], .bool false]) (by simp [results, Try.results13, go_sem, r0, r1]) rfl ⟨_, rfl, netR_nil _ _ _, ?_⟩
    first | exact HB2.out | exact (HB2.out.setCell (by simp) _).setCell (by simp) _
  | true =>
    rw [ho] at CN
    have HOK := Lib.hid ho
    have hll30 : ll ≤ 30 := by rw [NL.out]; exact (okN_len ho).2.1
    have hm12 : m ≤ 12 := by rw [NP.out]; exact (okN_len ho).1
    clear ho
    have hw1 : wrap64 ((ll : Int) - 1) = (ll : Int) - 1 := IntWalk.wrap64_in _ (by omega)
    have CI0 := fun (W : World) => sin_any k 0 ((ll : Int) - 1) W
    by_cases hk : 0 ≤ k ∧ k ≤ (ll : Int) - 1
    case neg =>
      have CI := Lib.hid (fun (W : World) => (show Calls Try.prog 46 #[.int .i64 k, .int .i64 0, .int .i64 ((ll : Int) - 1)] W fun e w' => e = .returned (.bool false) ∧ W = w' by have q := CI0 W; rw [show inB 0 ((ll : Int) - 1) k = false from decide_eq_false hk] at q; exact q))
      have hnk : feedB n k ts = false := feedB_no2 (by rw [← NL.out]; omega)
      have HF := Lib.hid (HR1.out.trans hnk)
      have HE := Lib.hid (HR0.out.trans (feed_no hnk))
      clear hk hnk CI0
      obtain rfl := HE.out
      obtain rfl := HF.out
      go_enter Try.func13, Try.ntmps13
      go_wp2_with (first | (go_at_call 46; with_reducible refine (CI.out _).mono ?_; rintro e w3 ⟨rfl, rfl⟩) | (go_at_call 45; with_reducible refine (CN.out _ hb.out).mono ?_; rintro e w2 ⟨rfl, hb1⟩; have HB2 := Lib.hid (hb.out.trans (hb1.mono hb.out.size)); have G2 := Lib.hid (blk_in hH.out hb1); have J2 := Lib.hid (blk_in hH1.out hb1); obtain ⟨k0, k1⟩ := cells2 G2.out; have gl := lt_of G2.out; obtain ⟨r0, r1⟩ := cells2 J2.out; have rl := lt_of J2.out; have rz0 := fr_of J2.out 0; have rz1 := fr_of J2.out 1; clear hb1))
      refine bodyPost_ret (v := .tuple #[.agg #[.slice none 0 0, .slice none 0 0], .bool false]) (by simp [results, Try.results13, go_sem, r0, r1]) rfl ⟨_, rfl, netR_nil _ _ _, ?_⟩
      first | exact HB2.out | exact (HB2.out.setCell (by simp) _).setCell (by simp) _
    have CI := Lib.hid (fun (W : World) => (show Calls Try.prog 46 #[.int .i64 k, .int .i64 0, .int .i64 ((ll : Int) - 1)] W fun e w' => e = .returned (.bool true) ∧ W = w' by have q := CI0 W; rw [show inB 0 ((ll : Int) - 1) k = true from decide_eq_true hk] at q; exact q))
    obtain ⟨kk, rfl⟩ : ∃ kk : Nat, k = kk := ⟨k.toNat, by omega⟩
    have hkl : kk < ll := by omega
    obtain ⟨l, hx⟩ : ∃ l, n.links[kk]? = some l := ⟨_, List.getElem?_eq_getElem (by rw [← NL.out]; exact hkl)⟩
    have HX := Lib.hid hx
    have HL4 := Lib.hid (isS_len (tok_isS HOK.out (List.mem_of_getElem? hx)))
    have HF := Lib.hid (HR1.out.trans (feedB_at HOK.out hx))
    have HOF := Lib.hid (okN_feed HOK.out hx ts)
    clear hk hx CI0
    go_enter Try.func13, Try.ntmps13
    go_upto_region 4 with (first | (go_at_call 46; with_reducible refine (CI.out _).mono ?_; rintro e w3 ⟨rfl, rfl⟩) | (go_at_call 45; with_reducible refine (CN.out _ hb.out).mono ?_; rintro e w2 ⟨rfl, hb1⟩; have HB2 := Lib.hid (hb.out.trans (hb1.mono hb.out.size)); have G2 := Lib.hid (blk_in hH.out hb1); have J2 := Lib.hid (blk_in hH1.out hb1); obtain ⟨k0, k1⟩ := cells2 G2.out; have gl := lt_of G2.out; obtain ⟨r0, r1⟩ := cells2 J2.out; have rl := lt_of J2.out; have rz0 := fr_of J2.out 0; have rz1 := fr_of J2.out 1; clear hb1) | (go_at_call 47; (with_reducible refine (CC.out _ HB2.out HOK.out).mono ?_); rintro e w4 ⟨r, rfl, hN, hb4⟩; have HB4 := Lib.hid (HB2.out.trans (hb4.mono HB2.out.size)); have HZ4 := Lib.hid (show w2.heap.size ≤ w4.heap.size from hb4.size); have J4 := Lib.hid (blk_in J2.out hb4); obtain ⟨pv', lv', rfl, hP, hL, hwf⟩ := hN; have HPR := Lib.hid hP; have HLR := Lib.hid hL; obtain ⟨ca, cb, rfl⟩ := hP.shape; obtain ⟨cc, cd, rfl⟩ := hL.shape; rw [← NP.out] at HPR; rw [← NL.out] at HLR; rw [← NP.out, ← NL.out]; clear hb4 hP hL hwf))
    clear k0 k1 gl r0 r1 rl rz0 rz1
    generalize hW : w4.alloc (.cells #[.slice ca m cb, .slice cc ll cd] 31) = W5
    have HC5 := Lib.hid (show Below w4.heap.size w4 W5 by rw [← hW]; exact (Below.refl _ _).al _)
    have O5 := Lib.hid (show W5.heap[w4.heap.size]? = some (.cells #[.slice ca m cb, .slice cc ll cd] 31) by rw [← hW]; exact hp1 _ _)
    clear hW
    have HB5 := Lib.hid (HB4.out.trans (HC5.out.mono HB4.out.size))
    have J5 := Lib.hid (blk_in J4.out HC5.out)
    have HPR5 := Lib.hid (HPR.out.below HC5.out)
    obtain ⟨us, hVL, hFm, h3⟩ := HLR.out.below HC5.out
    have hvl := hVL.len
    obtain ⟨u0, hu0⟩ : ∃ u0, us[kk]? = some u0 := ⟨_, List.getElem?_eq_getElem (by have := (List.getElem?_eq_some_iff.1 HX.out).1; omega)⟩
    obtain ⟨LB, pcx, hpe, hpb1, hpb2, hpl, hpt, hpf, c0, c1, c2, c3, c4⟩ := hVL.at hu0 HX.out
    simp only [Value.slice.injEq] at hpe
    obtain ⟨rfl, hlen, rfl⟩ := hpe
    have hrow := hFm.own kk u0 l.tok hu0 (by rw [List.getElem?_map, HX.out]; rfl)
    have HROW := Lib.hid hrow
    have HVL := Lib.hid hVL
    have HFM := Lib.hid hFm
    have H3 := Lib.hid h3
    have HU0 := Lib.hid hu0
    have HPB := Lib.hid (And.intro hpb1 hpb2)
    have HPT := Lib.hid hpt
    have f4 := hpf (kk * 5 + 4)
    clear hVL hFm h3 hvl hlen hpb1 hpb2 hpt hpf c0 c1 c2 c3
    obtain ⟨ua, uc, rfl⟩ := hrow.shape
    clear hrow hu0
    obtain ⟨tk, htk⟩ : ∃ z, z = l.tok.length := ⟨_, rfl⟩
    have HTK := Lib.hid htk
    rw [← htk] at c4 HROW HU0
    clear htk
    obtain ⟨o0, o1⟩ := cells2 O5.out
    have ol := lt_of O5.out
    have HUS := Lib.hid (HU.out.below HB5.out)
    obtain ⟨hx0, hn, hc, hln⟩ := HUS.out.srcN
    have HN := Lib.hid hn
    have HC := Lib.hid hc
    have HLN := Lib.hid hln
    clear hx0 hn hc hln
    have ik1 : (0 : Int) ≤ (kk : Int) := by omega
    have ik2 : (kk : Int) < (ll : Int) := by omega
    have HROWD := Lib.hid (show (World.drew W5).ownsRow w2.heap.size 3 1 (.slice ua tk uc) tk (vals l.tok) from by have q := HROW.out; unfold Own at q; rw [← HTK.out] at q; exact q)
    have HCD := Lib.hid (show ∀ ad, ta = some ad → ∀ j y, (vals ts)[j]? = some y → (World.drew W5).cell? (ad.add j) = some y from HC.out)
    have HRB := Lib.hid (show ∀ q, (Value.slice ua tk uc).ownBlock = some q → w2.heap.size ≤ q ∧ q < w4.heap.size from fun q e => ⟨(HROW.out.lt q e).1, H3.out _ (List.mem_of_getElem? HU0.out) q e⟩)
    go_cut [7] from 24 (fun s7 wr => s7 = .bool false ∧ Hid (LnksR w2.heap.size wr.heap.size wr (.slice (some ⟨LB, 0, none⟩) ll cd) (n.links.set kk { l with tok := l.tok ++ ts })) ∧ Hid (PrgsR w2.heap.size w4.heap.size wr (.slice ca m cb) n.progs) ∧ Hid (wr.heap[w4.heap.size]? = some (.cells #[.slice ca m cb, .slice (some ⟨LB, 0, none⟩) ll cd] 31)) ∧ Hid (wr.heap[w.heap.size + 1]? = some (.cells #[.slice none 0 0, .slice none 0 0] 31)) ∧ Hid (Below w.heap.size w wr) ∧ Hid (W5.heap.size ≤ wr.heap.size))
    case first =>
      go_region_law (refine step_app_src Try.underlying26 hi hz0 hz1 hz2 rfl (by decide) rfl (.tmp 32) (.tmp 33) (by rfl) (by rfl) (lo := w2.heap.size) (v := .slice ua tk uc) (n := tk) (L := vals l.tok) (by rfl) (by rfl) HROWD.out HN.out HCD.out HLN.out (vals_one ts) (by have := HTS.out; have := NT.out; have := HTK.out; have := HL4.out; unfold maxLen; omega) (by have := HTS.out; have := NT.out; have := HTK.out; have := HL4.out; omega) (show w2.heap.size ≤ W5.heap.size by have := HC5.out.size; have := HZ4.out; omega) ?_; intro v' W6 hown hgrow hat; have hg6 : W5.grownBy W6 _ := grow_drew hgrow; have HG6 := Lib.hid hg6; have HAT := Lib.hid (show v'.ownBlock = (Value.slice ua tk uc).ownBlock ∨ v'.ownBlock = some W5.heap.size from hat); have HOWN := Lib.hid (show Own w2.heap.size W6 v' (l.tok ++ ts) by unfold Own; rw [List.length_append, vals_app, ← HTK.out, ← NT.out]; exact hown); have V6 := Lib.hid (HVL.out.keep (w' := W6) (fun B cur _ _ q => grown_keep q (by decide) HROW.out hg6)); obtain ⟨LB2, pc2, hpe2, _, _, hpl6, hpt6, hpf6, _, _, _, _, c6⟩ := V6.out.at HU0.out HX.out; simp only [Value.slice.injEq, Option.some.injEq, Addr.mk.injEq, and_true] at hpe2; obtain ⟨rfl, hml, rfl⟩ := hpe2; clear hml; have HPT6 := Lib.hid hpt6; have g6 := hpf6 (kk * 5 + 4); have O6 := Lib.hid ((hg6.block w4.heap.size (lt_of O5.out) (fun e => by have := (HRB.out _ e.symm).2; omega)).trans O5.out); obtain ⟨q0, q1⟩ := cells2 O6.out; have ql := lt_of O6.out; obtain ⟨xa, xc, rfl⟩ := row_shape hown; clear hown hgrow hat hg6 hpt6 hpf6)
      all_goals (
        go_wp2_with fail
        go_meet
        case rel =>
          have hne : LB ≠ w4.heap.size := by have := HPB.out; omega
          have hs := HG6.out.size
          have hc5 := HC5.out.size
          have hz4 := HZ4.out
          refine ⟨rfl, Lib.hid ?_, Lib.hid ?_, Lib.hid (setR_blkN O6.out (Ne.symm hne) _), Lib.hid (setR_blkN ((HG6.out.block _ (lt_of J5.out) (fun e => by have := (HRB.out _ e.symm).1; have := lt_of J2.out; omega)).trans J5.out) (by have := HPB.out; have := lt_of J2.out; omega) _), Lib.hid ?_, Lib.hid (by simp; exact hs)⟩
          · refine LnksR.put2 V6.out ?_ (fun x hx q e => Nat.lt_of_lt_of_le (H3.out x hx q e) (by simp; omega)) HX.out (fun q e => by have := (HOWN.out.lt q e).2; simpa using this) (Nat.le_refl _) (by simp; omega) HPT6.out
            exact HFM.out.upd HU0.out (fun y ys hy ha => hy.kept HG6.out ha) HOWN.out (HAT.out.imp id (fun e q h => by rw [e] at h; obtain rfl := Option.some.inj h; exact Nat.le_refl _))
          · exact HPR5.out.outT ((OutT.grown (OutT.refl 68 3 w2.heap.size w4.heap.size W5) HG6.out (fun q e => ⟨(HRB.out q e).1, (HRB.out q e).2, row_typed HROW.out q e⟩)).setC (p := ⟨LB, kk * 5 + 4, none⟩) HPB.out.1 HPB.out.2 HPT6.out _) (by decide) (by decide) (by decide) (by decide)
          · exact (HB5.out.grown HG6.out (by have := HB2.out.size; omega) (fun q e => by have := (HRB.out q e).1; have := HB2.out.size; omega)).setCell (p := ⟨LB, kk * 5 + 4, none⟩) (by have := HPB.out.1; have := HB2.out.size; show w.heap.size ≤ LB; omega) _)
    rename World => w6
    obtain ⟨rfl, HLR6, HPR6, O6, J6, HB6, HS6⟩ := hcut
    have HNR := Lib.hid (show NetR w2.heap.size w6.heap.size w6 (.agg #[.slice ca m cb, .slice (some ⟨LB, 0, none⟩) ll cd]) (feedN n kk l ts) from ⟨_, _, rfl, HPR6.out.mono (Nat.le_refl _) (by have := HS6.out; have := HC5.out.size; omega), HLR6.out, wf_set HWF.out HX.out⟩)
    have CN2 := Lib.hid (fun (W : World) (hw : Below w6.heap.size w6 W) => sisnet_any _ _ W (HNR.out.v.below hw))
    rw [HOF.out] at CN2
    clear o0 o1 ol c4 f4 hpl
    obtain ⟨o0, o1⟩ := cells2 O6.out
    have ol := lt_of O6.out
    cases hs : isS (l.tok ++ ts) with
    | false =>
      rw [hs] at CN2
      have HF2 := Lib.hid (HF.out.trans hs)
      have HE2 := Lib.hid (HR0.out.trans (feed_no ((feedB_at HOK.out HX.out).trans hs)))
      clear hs
      obtain rfl := HE2.out
      obtain rfl := HF2.out
      go_wp2_with (go_at_call 45; with_reducible refine (CN2.out _ (Below.refl _ _)).mono ?_; rintro e w7 ⟨rfl, hb7⟩; have HC7 := Lib.hid hb7; have HB7 := Lib.hid (HB6.out.trans (hb7.mono HB6.out.size)); have J7 := Lib.hid (blk_in J6.out hb7); have O7 := Lib.hid (blk_in O6.out hb7); obtain ⟨s0, s1⟩ := cells2 O7.out; have sl := lt_of O7.out; obtain ⟨r0, r1⟩ := cells2 J7.out; have rl := lt_of J7.out; have rz0 := fr_of J7.out 0; have rz1 := fr_of J7.out 1; clear hb7)
      refine bodyPost_ret (v := .tuple #[.agg #[.slice none 0 0, .slice none 0 0], .bool false]) (by simp [results, Try.results13, go_sem, r0, r1]) rfl ⟨_, rfl, netR_nil _ _ _, ?_⟩
      first | exact HB7.out | exact (HB7.out.setCell (by simp) _).setCell (by simp) _
    | true =>
      rw [hs] at CN2
      have HF2 := Lib.hid (HF.out.trans hs)
      have HE2 := Lib.hid (HR0.out.trans ((feed_yes ((feedB_at HOK.out HX.out).trans hs)).trans (by rw [feedL_at HX.out, Int.toNat_natCast])))
      clear hs
      obtain rfl := HF2.out
      go_wp2_with (go_at_call 45; with_reducible refine (CN2.out _ (Below.refl _ _)).mono ?_; rintro e w7 ⟨rfl, hb7⟩; have HC7 := Lib.hid hb7; have HB7 := Lib.hid (HB6.out.trans (hb7.mono HB6.out.size)); have J7 := Lib.hid (blk_in J6.out hb7); have O7 := Lib.hid (blk_in O6.out hb7); obtain ⟨s0, s1⟩ := cells2 O7.out; have sl := lt_of O7.out; obtain ⟨r0, r1⟩ := cells2 J7.out; have rl := lt_of J7.out; have rz0 := fr_of J7.out 0; have rz1 := fr_of J7.out 1; clear hb7)
      have q := set2_all J7.out (.slice ca m cb) (.slice (some ⟨LB, 0, none⟩) ll cd)
      refine bodyPost_ret (v := .tuple #[.agg #[.slice ca m cb, .slice (some ⟨LB, 0, none⟩) ll cd], .bool true]) (by simp [results, Try.results13, go_sem, r0, r1]) rfl ⟨_, rfl, ?_, ?_⟩
      · rw [HE2.out]
        exact ((HNR.out.below HC7.out).out q.2 (.inr (by have := lt_of J2.out; omega))).mono HB2.out.size (Nat.le_trans HC7.out.size q.2.size)
      · exact q.2.below HB7.out HB7.out.size (by omega)

def chp (ts : List Int) (i : Nat) : Lnk := ⟨(i : Int) - 1, 0, (i : Int), 0, if i = 0 then ts else []⟩
def chl (m : Nat) (ts : List Int) : Lnk := ⟨(m : Int) - 1, 0, -1, 0, if m = 0 then ts else []⟩
def chP (k : Nat) (ts : List Int) : List Lnk := (List.range k).map (chp ts)
def chL (m : Nat) (ts : List Int) : List Lnk := chP m ts ++ [chl m ts]
theorem chP_len (k : Nat) (ts : List Int) : (chP k ts).length = k := by unfold chP; simp
theorem chL_len (m : Nat) (ts : List Int) : (chL m ts).length = m + 1 := by unfold chL; simp [chP_len]
theorem chP_succ (k : Nat) (ts : List Int) : chP (k + 1) ts = chP k ts ++ [chp ts k] := by unfold chP; rw [List.range_succ, List.map_append]; rfl
theorem chP_at {k i : Nat} (ts : List Int) (h : i < k) : (chP k ts)[i]? = some (chp ts i) := by
  unfold chP; rw [List.getElem?_map, List.getElem?_range h]; rfl
theorem chL_at {m i : Nat} (ts : List Int) (h : i < m) : (chL m ts)[i]? = some (chp ts i) := by
  unfold chL; rw [List.getElem?_append_left (by rw [chP_len]; exact h)]; exact chP_at ts h
theorem chL_last (m : Nat) (ts : List Int) : (chL m ts)[m]? = some (chl m ts) := by
  unfold chL; rw [List.getElem?_append_right (by rw [chP_len]; exact Nat.le_refl _), chP_len]; simp
theorem chL_or {m i : Nat} {ts : List Int} {l : Lnk} (h : (chL m ts)[i]? = some l) : (i < m ∧ l = chp ts i) ∨ (i = m ∧ l = chl m ts) := by
  have hi := (List.getElem?_eq_some_iff.1 h).1
  rw [chL_len] at hi
  by_cases e : i < m
  · rw [chL_at ts e] at h; exact .inl ⟨e, (Option.some.inj h).symm⟩
  · obtain rfl : i = m := by omega
    rw [chL_last] at h; exact .inr ⟨rfl, (Option.some.inj h).symm⟩
theorem chL_zero {m : Nat} {ts : List Int} {l : Lnk} (h : l ∈ chL m ts) : l.out = 0 ∧ l.inn = 0 := by
  obtain ⟨i, hi⟩ := List.getElem?_of_mem h
  rcases chL_or hi with ⟨_, rfl⟩ | ⟨_, rfl⟩ <;> exact ⟨rfl, rfl⟩
theorem chL_tok {m i : Nat} {ts : List Int} {l : Lnk} (h : (chL m ts)[i]? = some l) : l.tok = if i = 0 then ts else [] := by
  rcases chL_or h with ⟨_, rfl⟩ | ⟨rfl, rfl⟩ <;> rfl
theorem wf_chL {m : Nat} {ts : List Int} (hm : m ≤ 1100000) : ∀ l ∈ chL m ts, wfL l := by
  intro l h
  obtain ⟨i, hi⟩ := List.getElem?_of_mem h
  rcases chL_or hi with ⟨h1, rfl⟩ | ⟨_, rfl⟩
  · unfold wfL wfE Lnk.src Lnk.tgt chp wfI
    simp only []
    omega
  · unfold wfL wfE Lnk.src Lnk.tgt chl wfI
    simp only []
    omega
def chainB (ps : List Prg) (ts : List Int) : Bool := okN ⟨ps, chL ps.length ts⟩
def chainNetworkR0 (ps : List Prg) (ts : List Int) : Net := if chainB ps ts then ⟨ps, chL ps.length ts⟩ else ⟨[], []⟩
theorem chain_no {ps : List Prg} {ts : List Int} (h : chainB ps ts = false) : chainNetworkR0 ps ts = ⟨[], []⟩ := by unfold chainNetworkR0; rw [h]; rfl
theorem chain_yes {ps : List Prg} {ts : List Int} (h : chainB ps ts = true) : chainNetworkR0 ps ts = ⟨ps, chL ps.length ts⟩ := by unfold chainNetworkR0; rw [h]; rfl
theorem chain_bd (ps : List Prg) (ts : List Int) : szN (chainNetworkR0 ps ts) ≤ 50000 := by
  cases h : chainB ps ts with
  | false => rw [chain_no h]; simp [szN]
  | true => rw [chain_yes h]; exact ok_szN h
theorem chain_ports {ps : List Prg} {ts : List Int} (h : chainB ps ts = true) : ps.length ≠ 0 ∧ ∀ (i : Nat) (p : Prg), ps[i]? = some p → p.ins = 1 ∧ p.outs = 1 := by
  obtain ⟨h1, h2, h3, h4⟩ := (okN_iff _).1 h
  refine ⟨fun e => ?_, fun i p hp => ?_⟩
  · have hl := (h2 (chl ps.length ts) (List.mem_of_getElem? (chL_last ps.length ts))).1
    rw [e] at hl
    unfold linkL at hl
    rw [Bool.and_eq_true] at hl
    exact absurd hl.2 (by simp [chl, Lnk.src, Lnk.tgt, outE])
  · have hi := (List.getElem?_eq_some_iff.1 hp).1
    have ne : ((i : Int), (0 : Int)) ≠ outE := fun e => by have := congrArg Prod.fst e; simp only [outE] at this; omega
    have ins1 : 0 < p.ins := by
      have hl := (h2 (chp ts i) (List.mem_of_getElem? (chL_at ts hi))).2.2
      rcases hl with hl | hl
      · exact absurd hl ne
      · obtain ⟨j, q, hq, e1, _, e2⟩ := mem_ports.1 hl
        have : i = j := by have e : (i : Int) = (j : Int) := e1; omega
        subst this
        rw [hp] at hq
        obtain rfl := Option.some.inj hq
        exact e2
    have outs1 : 0 < p.outs := by
      have hl : ((i : Int), (0 : Int)) = outE ∨ ((i : Int), (0 : Int)) ∈ ports Prg.outs ps := by
        by_cases e : i + 1 < ps.length
        · have q := (h2 (chp ts (i + 1)) (List.mem_of_getElem? (chL_at ts e))).2.1
          have : (chp ts (i + 1)).src = ((i : Int), (0 : Int)) := by unfold chp Lnk.src; simp
          rwa [this] at q
        · have q := (h2 (chl ps.length ts) (List.mem_of_getElem? (chL_last ps.length ts))).2.1
          have : (chl ps.length ts).src = ((i : Int), (0 : Int)) := by unfold chl Lnk.src; simp; omega
          rwa [this] at q
      rcases hl with hl | hl
      · exact absurd hl ne
      · obtain ⟨j, q, hq, e1, _, e2⟩ := mem_ports.1 hl
        have : i = j := by have e : (i : Int) = (j : Int) := e1; omega
        subst this
        rw [hp] at hq
        obtain rfl := Option.some.inj hq
        exact e2
    have no2 : ∀ f : Prg → Int, (∀ e ∈ ports f ps, (∃ l ∈ chL ps.length ts, e = (e.1, l.out) ∨ e = (e.1, l.inn))) → ¬ 1 < f p := by
      intro f hf hlt
      obtain ⟨l, hl, e | e⟩ := hf ((i : Int), (1 : Int)) (mem_ports.2 ⟨i, p, hp, rfl, by simp only []; omega, hlt⟩)
      · have := congrArg Prod.snd e; simp [(chL_zero hl).1] at this
      · have := congrArg Prod.snd e; simp [(chL_zero hl).2] at this
    have i2 := no2 Prg.ins (fun e he => by
      have hc : List.count e ((chL ps.length ts).map Lnk.tgt) = 1 := h4 e he
      have hm : e ∈ (chL ps.length ts).map Lnk.tgt := List.count_pos_iff.1 (by omega)
      obtain ⟨l, hl, rfl⟩ := List.mem_map.1 hm
      exact ⟨l, hl, .inr rfl⟩)
    have o2 := no2 Prg.outs (fun e he => by
      have hc : List.count e ((chL ps.length ts).map Lnk.src) = 1 := h3 e he
      have hm : e ∈ (chL ps.length ts).map Lnk.src := List.count_pos_iff.1 (by omega)
      obtain ⟨l, hl, rfl⟩ := List.mem_map.1 hm
      exact ⟨l, hl, .inl rfl⟩)
    omega

/-- The slots of the tokens: the first is given, the others are nil. -/
def usC (u : Value) : Nat → List Value
  | 0 => []
  | 1 => [u]
  | k + 2 => usC u (k + 1) ++ [.slice none 0 0]
theorem usC_len (u : Value) : ∀ k, (usC u k).length = k
  | 0 => rfl
  | 1 => rfl
  | k + 2 => by rw [usC, List.length_append, usC_len u (k + 1)]; rfl
theorem usC_succ (u : Value) (k : Nat) : usC u (k + 1) = usC u k ++ [if k = 0 then u else .slice none 0 0] := by
  cases k <;> rfl
theorem usC_at (u : Value) : ∀ (k i : Nat) (x : Value), (usC u k)[i]? = some x → x = if i = 0 then u else .slice none 0 0
  | 0, i, x, h => by simp [usC] at h
  | k + 1, i, x, h => by
    rw [usC_succ] at h
    by_cases hi : i < (usC u k).length
    · rw [List.getElem?_append_left hi] at h; exact usC_at u k i x h
    · rw [List.getElem?_append_right (by omega)] at h
      have e : i = k := by
        have := (List.getElem?_eq_some_iff.1 h).1
        simp at this
        rw [usC_len] at hi this
        omega
      subst e
      rw [usC_len] at h
      simpa using h.symm
def cellC (u : Value) (ts : List Int) (k : Nat) : List Value := cellsL (chP k ts) (usC u k)
theorem cellC_succ (u : Value) (ts : List Int) (k : Nat) : cellC u ts (k + 1) = cellC u ts k ++ [.int .i64 ((k : Int) - 1), .int .i64 0, .int .i64 (k : Int), .int .i64 0, if k = 0 then u else .slice none 0 0] := by
  unfold cellC
  rw [chP_succ, usC_succ, cellsL_snoc _ _ _ _ (by rw [chP_len, usC_len])]
  rfl
theorem cellC_len (u : Value) (ts : List Int) (k : Nat) : (cellC u ts k).length = k * 5 := by
  unfold cellC
  rw [cellsL_len _ _ (by rw [chP_len, usC_len]), usC_len]
theorem cellC_end (u : Value) (ts : List Int) (m : Nat) : cellsL (chL m ts) (usC u (m + 1)) = cellC u ts m ++ [.int .i64 ((m : Int) - 1), .int .i64 0, .int .i64 (-1), .int .i64 0, if m = 0 then u else .slice none 0 0] := by
  unfold cellC chL
  rw [usC_succ, cellsL_snoc _ _ _ _ (by rw [chP_len, usC_len])]
  rfl
theorem cellC_set (u : Value) (ts : List Int) (m : Nat) : (cellC u ts (m + 1)).set (m * 5 + 2) (.int .i64 (-1)) = cellsL (chL m ts) (usC u (m + 1)) := by
  rw [cellC_succ, cellC_end, List.set_append_right _ _ (by rw [cellC_len]; omega), cellC_len, show m * 5 + 2 - m * 5 = 2 by omega]
  rfl
/-- A row of links of the call's own, whose slots hold any slices. -/
theorem SlL.ofRow {lo m : Nat} {w : World} {v : Value} {us : List Value} {xs : List Lnk} (h : w.ownsRow lo 68 5 v m (cellsL xs us)) (h1 : xs.length = m) (h2 : us.length = m) (hs : ∀ (i : Nat) (u : Value) (p : Lnk), us[i]? = some u → xs[i]? = some p → Sl w u p.tok) (hw : ∀ l ∈ xs, wfL l) : SlL w v xs := by
  have hv := VL.ofRow h h1 h2
  have hl := hv.len
  rcases hv with ⟨rfl, rfl, rfl⟩ | ⟨B, cap, cur, rfl, a2, a3, a4, a5, a6, a7, a8⟩
  · exact ⟨none, 0, rfl, Nat.le_refl _, by simp, fun _ => rfl, .inl rfl⟩
  · refine ⟨_, cap, by rw [hl], by omega, a5, (fun e => by cases e), .inr ⟨B, 0, rfl, lt_of a6, fun i x hx => ?_⟩⟩
    have hi := (List.getElem?_eq_some_iff.1 hx).1
    obtain ⟨u, hu⟩ : ∃ u, us[i]? = some u := ⟨_, List.getElem?_eq_getElem (by omega)⟩
    have z := a8 i u x hu hx
    simp only [Nat.zero_add]
    exact ⟨u, (cell_of a6 _).trans z.1, (cell_of a6 _).trans z.2.1, (cell_of a6 _).trans z.2.2.1, (cell_of a6 _).trans z.2.2.2.1, (cell_of a6 _).trans z.2.2.2.2, hw x (List.mem_of_getElem? hx), hs i u x hu hx⟩
theorem sl_none (w : World) : Sl w (.slice none 0 0) [] := (show Own 0 w (.slice none 0 0) [] from World.ownsRow_nil _ _ _ _).sl
/-- The chain's links in a row of the call's own. -/
theorem chain_row {lo m : Nat} {w : World} {v u : Value} {ts : List Int} (h : w.ownsRow lo 68 5 v (m + 1) (cellsL (chL m ts) (usC u (m + 1)))) (hu : Sl w u ts) (hm : m ≤ 1100000) : SlL w v (chL m ts) := by
  refine SlL.ofRow h (chL_len m ts) (usC_len u _) (fun i x p hx hp => ?_) (wf_chL hm)
  rw [usC_at u _ i x hx, chL_tok hp]
  by_cases e : i = 0
  · rw [if_pos e, if_pos e]; exact hu
  · rw [if_neg e, if_neg e]; exact sl_none w

/-- Programs of the call's own, as the law lays them. -/
def PgsH (lo hi : Nat) (w : World) (v : Value) (xs : List Prg) : Prop := (∃ g, v = .slice (some ⟨g, 0, none⟩) xs.length xs.length ∧ (lo ≤ g ∧ g < hi) ∧ PrgsO g xs.length w xs xs.length ∧ RowA 3 g hi w xs.length) ∧ hi ≤ w.heap.size
theorem PgsH.below {lo hi : Nat} {w w' : World} {v : Value} {xs : List Prg} (h : PgsH lo hi w v xs) (hb : Below w.heap.size w w') : PgsH lo hi w' v xs := by
  obtain ⟨⟨g, h1, h2, hp, ap⟩, h3⟩ := h
  exact ⟨⟨g, h1, h2, hp.below hb, ap.below hb (rowltP hp)⟩, Nat.le_trans h3 hb.size⟩
theorem PgsH.v {lo hi : Nat} {w : World} {v : Value} {xs : List Prg} (h : PgsH lo hi w v xs) : SlP w v xs := by
  obtain ⟨⟨g, rfl, h2, hp, ap⟩, h3⟩ := h
  exact hp.done rfl
theorem PgsH.shape {lo hi : Nat} {w : World} {v : Value} {xs : List Prg} (h : PgsH lo hi w v xs) : ∃ a c, v = .slice a xs.length c := by
  obtain ⟨⟨g, rfl, _⟩, _⟩ := h
  exact ⟨_, _, rfl⟩
theorem code_le_sum : ∀ (xs : List Prg) (x : Prg), x ∈ xs → x.code.length ≤ (xs.map fun p => p.code.length).sum
  | [], x, h => by simp at h
  | y :: ys, x, h => by
    rw [List.map_cons, List.sum_cons]
    rcases List.mem_cons.1 h with rfl | h
    · omega
    · have := code_le_sum ys x h; omega
theorem toPgs_h (v : Value) (xs : List Prg) (w : World) (h : SlP w v xs) (hs : sumP xs ≤ 1048576) :
    Calls Try.prog 48 #[v] w fun e w' => ∃ v', e = .returned v' ∧ PgsH w.heap.size w'.heap.size w' v' xs ∧ Below w.heap.size w w' := by
  unfold sumP at hs
  refine (toProgramS_any v xs w h (by omega) (fun x hx => by have := code_le_sum xs x hx; omega)).mono ?_
  rintro e w' ⟨rfl, hp, ap, hb⟩
  exact ⟨_, rfl, ⟨⟨_, rfl, ⟨Nat.le_refl _, rowltP hp⟩, hp, ap⟩, Nat.le_refl _⟩, hb⟩
theorem stP_le : ∀ (xs : List Prg), (xs.map stP).sum ≤ 6 * sumP xs
  | [] => by simp
  | x :: xs => by
    have h := stP_le xs
    have hx : stP x = 2 + 4 * x.code.length := rfl
    unfold sumP at h ⊢
    simp only [List.map_cons, List.sum_cons, List.length_cons]
    rw [hx]
    omega
theorem markPgs_h (lo hi : Nat) (v : Value) (xs : List Prg) (k : Int) (w : World) (h : PgsH lo hi w v xs) (hk0 : 0 ≤ k) (hk : k + 6 * (sumP xs : Nat) ≤ 1000000000) :
    Calls Try.prog 56 #[v, .int .i64 k] w fun e w' => e = .returned (.int .i64 (k + ((xs.map stP).sum : Nat))) ∧ Out lo hi w w' := by
  obtain ⟨⟨g, rfl, h2, hp, ap⟩, h3⟩ := h
  refine (markProgramS_any g xs.length hi xs k w hp ap rfl hk0 (by have := stP_le xs; omega) h2.2).mono ?_
  rintro e w' ⟨rfl, _, _, hO⟩
  exact ⟨rfl, hO.out.mono h2.1 (Nat.le_refl _)⟩

set_option maxRecDepth 100000 in
set_option maxHeartbeats 16000000 in
theorem ivalid_any (v : Value) (n : Net) (w : World) (h : NetV w v n) :
    Calls Try.prog 63 #[v] w fun e w' => ∃ r, e = .returned (.tuple #[r, .bool (okN n)]) ∧ NetR w.heap.size w'.heap.size w' r (if okN n then n else ⟨[], []⟩) ∧ Below w.heap.size w w' := by
  have CN := Lib.hid (fun (W : World) (hw : Below w.heap.size w W) => iisnet_any v n W (h.below hw))
  have CC := Lib.hid (fun (W : World) (hw : Below w.heap.size w W) (hok : okN n = true) => icopynet_any v n W (h.below hw) (ok_small hok))
  obtain ⟨pv, lv, rfl, hp, hl⟩ := h
  obtain ⟨la, lcap, rfl⟩ := hl.shape
  obtain ⟨pa, pcap, rfl⟩ := hp.shape
  obtain ⟨m, hm⟩ : ∃ m, m = n.progs.length := ⟨_, rfl⟩
  obtain ⟨ll, hll⟩ : ∃ m, m = n.links.length := ⟨_, rfl⟩
  rw [← hm, ← hll] at CN CC ⊢
  have NP := Lib.hid hm
  have NL := Lib.hid hll
  clear hp hl hm hll
  have hb := Lib.hid (((Below.refl w.heap.size w).al (.cells #[.slice pa m pcap, .slice la ll lcap] 31)).al (.cells #[.slice none 0 0, .slice none 0 0] 31))
  have hH := Lib.hid (hp21 w (.cells #[.slice pa m pcap, .slice la ll lcap] 31) (.cells #[.slice none 0 0, .slice none 0 0] 31))
  have hH1 := Lib.hid (hp2 w (.cells #[.slice pa m pcap, .slice la ll lcap] 31) (.cells #[.slice none 0 0, .slice none 0 0] 31))
  cases ho : okN n with
  | false =>
    rw [ho] at CN
    clear ho
    go_enter Try.func63, Try.ntmps63
    go_wp2_with (go_at_call 50; with_reducible refine (CN.out _ hb.out).mono ?_; rintro e w2 ⟨rfl, hb1⟩; have HB2 := Lib.hid (hb.out.trans (hb1.mono hb.out.size)); have G2 := Lib.hid (blk_in hH.out hb1); have J2 := Lib.hid (blk_in hH1.out hb1); obtain ⟨k0, k1⟩ := cells2 G2.out; have gl := lt_of G2.out; obtain ⟨r0, r1⟩ := cells2 J2.out; have rl := lt_of J2.out; have rz0 := fr_of J2.out 0; have rz1 := fr_of J2.out 1; clear hb1)
    refine bodyPost_ret (v := .tuple #[.agg #[.slice none 0 0, .slice none 0 0], .bool false]) (by simp [results, Try.results63, go_sem, r0, r1]) rfl ⟨_, rfl, netR_nil _ _ _, ?_⟩
    first | exact HB2.out | exact (HB2.out.setCell (by simp) _).setCell (by simp) _
  | true =>
    rw [ho] at CN
    have HOK := Lib.hid ho
    clear ho
    go_enter Try.func63, Try.ntmps63
    go_wp2_with (first | (go_at_call 53; (with_reducible refine (CC.out _ HB2.out HOK.out).mono ?_); rintro e w4 ⟨r, rfl, hN, hb4⟩; have HC4 := Lib.hid hb4; have HB4 := Lib.hid (HB2.out.trans (hb4.mono HB2.out.size)); have J4 := Lib.hid (blk_in J2.out hb4); have HN4 := Lib.hid hN; obtain ⟨ca, cb, cc, cd, rfl⟩ := hN.shape; rw [← NP.out, ← NL.out] at HN4; rw [← NP.out, ← NL.out]; clear hb4 hN k0 k1 gl r0 r1 rl rz0 rz1; obtain ⟨r0, r1⟩ := cells2 J4.out; have rl := lt_of J4.out; have rz0 := fr_of J4.out 0; have rz1 := fr_of J4.out 1) | (go_at_call 50; with_reducible refine (CN.out _ hb.out).mono ?_; rintro e w2 ⟨rfl, hb1⟩; have HB2 := Lib.hid (hb.out.trans (hb1.mono hb.out.size)); have G2 := Lib.hid (blk_in hH.out hb1); have J2 := Lib.hid (blk_in hH1.out hb1); obtain ⟨k0, k1⟩ := cells2 G2.out; have gl := lt_of G2.out; obtain ⟨r0, r1⟩ := cells2 J2.out; have rl := lt_of J2.out; have rz0 := fr_of J2.out 0; have rz1 := fr_of J2.out 1; clear hb1))
    have q := set2_all J4.out (.slice ca m cb) (.slice cc ll cd)
    refine bodyPost_ret (v := .tuple #[.agg #[.slice ca m cb, .slice cc ll cd], .bool true]) (by simp [results, Try.results63, go_sem, r0, r1]) rfl ⟨_, rfl, ?_, ?_⟩
    · exact (HN4.out.out q.2 (.inr (by have := lt_of J2.out; omega))).mono HB2.out.size q.2.size
    · exact q.2.below HB4.out HB4.out.size (by omega)

theorem cellC_next (u : Value) (ts : List Int) (k : Nat) : cellC u ts (k + 1 + 1) = cellC u ts (k + 1) ++ [.int .i64 (k : Int), .int .i64 0, .int .i64 ((k : Int) + 1), .int .i64 0, .slice none 0 0] := by
  rw [cellC_succ u ts (k + 1), if_neg (by omega), show ((k + 1 : Nat) : Int) - 1 = (k : Int) by omega, show ((k + 1 : Nat) : Int) = (k : Int) + 1 by omega]
theorem not_own {lo T sz n g : Nat} {w : World} {v : Value} {L : List Value} {cs : Array Value} {T' : Nat} (h : w.ownsRow lo T sz v n L) (hg : w.heap[g]? = some (.cells cs T')) (hT : T ≠ T') : some g ≠ v.ownBlock := by
  intro e
  obtain ⟨c2, f2, h2⟩ := row_typed h g e.symm
  rw [hg] at h2
  simp at h2
  exact hT h2.2.1.symm

end Go.Proofs.Ytkeoefbkeommhaa
