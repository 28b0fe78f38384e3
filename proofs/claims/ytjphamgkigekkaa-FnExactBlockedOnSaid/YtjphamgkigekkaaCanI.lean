/-
  What a process of a valid state wants, and whether it can step: the program's answers. No statement of the seat is proved here.
  Whether a network is quiet: the program's answers. No statement of the seat is proved here.
-/
import Derived.Test.YtjphamgkigekkaaCanM
import Derived.Test.YtjphamgkigekkaaIsStB
import Derived.Test.YtjphamgkigekkaaIsPro
import Derived.Deep.RegionHeld3
import Derived.Deep.Cut
namespace Go.Proofs.Ytjphamgkigekkaa
open Go.RowKit

set_option maxRecDepth 100000 in
set_option maxHeartbeats 8000000 in
theorem inext_any (v u : Value) (n : Net) (s : Stt) (k : Nat) (w : World) (hv : NetV w v n) (hu : StV w u s) (hg : GoodSt n s) (hk : k < n.progs.length) :
    Calls Try.prog 105 #[v, u, .int .i64 (k : Int)] w fun e w' => e = .returned (.tuple #[.int .i64 (wantK n s k), .int .i64 (linkK n s k)]) ∧ Below w.heap.size w w' := by
  obtain ⟨pv, lv, rfl, hp, hl⟩ := hv
  obtain ⟨av, qv, rv, rfl, ha, hq, hr⟩ := hu
  have HP := Lib.hid hp
  have HL := Lib.hid hl
  have HA := Lib.hid ha
  have HQ := Lib.hid hq
  have HR := Lib.hid hr
  have LP := hp.len
  have LL := hl.len
  have LA := ha.len
  have LQ := hq.len
  have LR := hr.len
  obtain ⟨pl, hpl⟩ : ∃ z, z = n.progs.length := ⟨_, rfl⟩
  obtain ⟨ll, hll⟩ : ∃ z, z = n.links.length := ⟨_, rfl⟩
  obtain ⟨al, hal⟩ : ∃ z, z = s.acts.length := ⟨_, rfl⟩
  obtain ⟨ql, hql⟩ : ∃ z, z = s.queues.length := ⟨_, rfl⟩
  obtain ⟨rl, hrl⟩ : ∃ z, z = s.sent.length := ⟨_, rfl⟩
  obtain ⟨st, hst⟩ : ∃ z, z = s.steps := ⟨_, rfl⟩
  obtain ⟨pa, pcap, rfl⟩ := hp.shape
  obtain ⟨la, lcap, rfl⟩ := hl.shape
  obtain ⟨aa, ac, rfl⟩ := ha.shape
  obtain ⟨qa, qc, rfl⟩ := hq.shape
  obtain ⟨ra, rc, rfl⟩ := hr.shape
  clear hp hl ha hq hr
  obtain ⟨R, hR⟩ : ∃ R, R = linkK n s k := ⟨_, rfl⟩
  have HRL := Lib.hid hR
  obtain ⟨R0, hR0⟩ : ∃ R, R = wantK n s k := ⟨_, rfl⟩
  have HR0 := Lib.hid hR0
  rw [← hR, ← hR0]
  clear hR hR0
  have CT := Lib.hid (fun (W : World) (pt : Int) (hw : Below w.heap.size w W) => iindexT_any _ n.links (k : Int) pt W (HL.out.below hw))
  have CS := Lib.hid (fun (W : World) (pt : Int) (hw : Below w.heap.size w W) => iindexS_any _ n.links (k : Int) pt W (HL.out.below hw))
  simp only [← hpl, ← hll, ← hal, ← hql, ← hrl, ← hst] at HP HL HA HQ HR CT CS LP LL LA LQ LR ⊢
  have NP := Lib.hid hpl
  have NL := Lib.hid hll
  have NA := Lib.hid hal
  have NQ := Lib.hid hql
  have NR := Lib.hid hrl
  have NS := Lib.hid hst
  clear hpl hll hal hql hrl hst
  have hb := Lib.hid (((Below.refl w.heap.size w).al (.cells #[.slice pa pl pcap, .slice la ll lcap] 34)).al (.cells #[.slice aa al ac, .slice qa ql qc, .slice ra rl rc, .int .i64 st] 53))
  have hH0 := Lib.hid (hp21 w (.cells #[.slice pa pl pcap, .slice la ll lcap] 34) (.cells #[.slice aa al ac, .slice qa ql qc, .slice ra rl rc, .int .i64 st] 53))
  have hH1 := Lib.hid (hp2 w (.cells #[.slice pa pl pcap, .slice la ll lcap] 34) (.cells #[.slice aa al ac, .slice qa ql qc, .slice ra rl rc, .int .i64 st] 53))
  obtain ⟨p, a, hpk, hak, hoP, hoA, hpc, e1, e2⟩ := hg.at hk
  have hbw := hb.out
  obtain ⟨gb, go, c, hpa, hgb, k0, k1, k2, ks⟩ := HP.out.atb hpk
  obtain ⟨ab, ao, d, haa, hab, f0, f1, fs⟩ := HA.out.atb hak
  subst hpa
  subst haa
  have hwt : wantK n s k = wantC p.code a.pc.toNat := by unfold wantK; rw [e1, e2]
  have hpt : portK n s k = portC p.code a.pc.toNat := by unfold portK; rw [e1, e2]
  have CW := Lib.hid (fun (W : World) (hw : Below w.heap.size w W) => iwantat_any (.agg #[.int .i64 p.ins, .int .i64 p.outs, c]) p a.pc W ⟨c, rfl, ks.below hw⟩ hpc)
  rw [← hwt, ← hpt] at CW
  obtain ⟨ua, uc, rfl⟩ := ks.shape
  obtain ⟨va, vc, rfl⟩ := fs.shape
  obtain ⟨ul, hul⟩ : ∃ q, q = p.code.length := ⟨_, rfl⟩
  obtain ⟨vl, hvl⟩ : ∃ q, q = a.regs.length := ⟨_, rfl⟩
  obtain ⟨pi, hpi⟩ : ∃ q, q = p.ins := ⟨_, rfl⟩
  obtain ⟨po, hpo⟩ : ∃ q, q = p.outs := ⟨_, rfl⟩
  obtain ⟨pc, hpcc⟩ : ∃ q, q = a.pc := ⟨_, rfl⟩
  simp only [← hul, ← hvl, ← hpi, ← hpo, ← hpcc] at CW k0 k1 k2 f0 f1
  have hkp : k < pl := by have := NP.out; omega
  have hka : k < al := by have := NA.out; have := NP.out; have := hg.la; omega
  have hb0 := hb.out
  have GN := Lib.hid hH0.out
  have GS := Lib.hid hH1.out
  clear hpk hak hoP hoA hpc e1 e2 hwt hpt ks fs hul hvl hpi hpo hpcc hb0 hbw
  have WT := Lib.hid (wantC_in (codeK n k) (pcK s k))
  obtain ⟨wt, hwt⟩ : ∃ q, q = wantK n s k := ⟨_, rfl⟩
  obtain ⟨pt, hpt⟩ : ∃ q, q = portK n s k := ⟨_, rfl⟩
  rw [← hwt, ← hpt] at CW
  replace WT := Lib.hid (show wt = 0 ∨ wt = 1 ∨ wt = 2 ∨ wt = 3 by rw [hwt]; exact WT.out)
  have HWT := Lib.hid hwt
  have HPT := Lib.hid hpt
  clear hwt hpt
  go_enter Try.func105, Try.ntmps105
  go_upto_region 1 with fail
  obtain ⟨W, hW⟩ : ∃ W, W = (w.alloc (.cells #[.slice (some ⟨gb, go, none⟩) pl pcap, .slice la ll lcap] 34)).alloc (.cells #[.slice (some ⟨ab, ao, none⟩) al ac, .slice qa ql qc, .slice ra rl rc, .int .i64 st] 53) := ⟨_, rfl⟩
  have HBW := Lib.hid (show Below w.heap.size w W by rw [hW]; exact hb.out)
  have KN := Lib.hid (show W.heap[w.heap.size]? = some (.cells #[.slice (some ⟨gb, go, none⟩) pl pcap, .slice la ll lcap] 34) by rw [hW]; exact GN.out)
  have KS := Lib.hid (show W.heap[w.heap.size + 1]? = some (.cells #[.slice (some ⟨ab, ao, none⟩) al ac, .slice qa ql qc, .slice ra rl rc, .int .i64 st] 53) by rw [hW]; exact GS.out)
  rw [← hW]
  clear hW GN GS hH0 hH1 hb
  obtain ⟨n0, n1⟩ := cells2 KN.out; obtain ⟨s0, s1, s2, s3⟩ := cells4s KS.out; have nl := lt_of KN.out; have sl := lt_of KS.out
  replace k0 := (HBW.out.cell (p := ⟨gb, go + k * 3, none⟩) hgb).trans k0
  replace k1 := (HBW.out.cell (p := ⟨gb, go + k * 3 + 1, none⟩) hgb).trans k1
  replace k2 := (HBW.out.cell (p := ⟨gb, go + k * 3 + 2, none⟩) hgb).trans k2
  replace f0 := (HBW.out.cell (p := ⟨ab, ao + k * 2, none⟩) hab).trans f0
  replace f1 := (HBW.out.cell (p := ⟨ab, ao + k * 2 + 1, none⟩) hab).trans f1
  replace hgb : gb < W.heap.size := Nat.lt_of_lt_of_le hgb HBW.out.size
  replace hab : ab < W.heap.size := Nat.lt_of_lt_of_le hab HBW.out.size
  go_cut [8, 9] from 10 (fun s8 s9 wr => s8 = .int .i64 wt ∧ s9 = .int .i64 pt ∧ Hid (Below W.heap.size W wr))
  case first =>
    go_region_held3 (fun w' => w'.cell? ⟨w.heap.size, 0, none⟩ = some (.slice (some ⟨gb, go, none⟩) pl pcap) ∧ w'.cell? ⟨w.heap.size + 1, 0, none⟩ = some (.slice (some ⟨ab, ao, none⟩) al ac) ∧ w'.cell? ⟨gb, go + k * 3, none⟩ = some (.int .i64 pi) ∧ w'.cell? ⟨gb, go + k * 3 + 1, none⟩ = some (.int .i64 po) ∧ w'.cell? ⟨gb, go + k * 3 + 2, none⟩ = some (.slice ua ul uc) ∧ w'.cell? ⟨ab, ao + k * 2, none⟩ = some (.int .i64 pc)) (go_keep) (first | (go_at_call 143; refine (CW.out _ (by first | with_reducible exact HBW.out | with_reducible exact HBW.out.drew)).mono ?_; rintro e w8 ⟨rfl, hb1⟩; have HC1 := Lib.hid (show Below W.heap.size W w8 by first | with_reducible exact hb1 | with_reducible exact cr_d hb1); have n0' := (HC1.out.cell (p := ⟨w.heap.size, 0, none⟩) nl).trans n0; have s0' := (HC1.out.cell (p := ⟨w.heap.size + 1, 0, none⟩) sl).trans s0; have k0' := (HC1.out.cell (p := ⟨gb, go + k * 3, none⟩) hgb).trans k0; have k1' := (HC1.out.cell (p := ⟨gb, go + k * 3 + 1, none⟩) hgb).trans k1; have k2' := (HC1.out.cell (p := ⟨gb, go + k * 3 + 2, none⟩) hgb).trans k2; have f0' := (HC1.out.cell (p := ⟨ab, ao + k * 2, none⟩) hab).trans f0; clear hb1))
    all_goals
      go_wp2_with fail
      go_meet
      case rel => exact ⟨rfl, rfl, HC1⟩
  rename World => w1
  obtain ⟨rfl, rfl, hb1⟩ := hcut
  have K1 := Lib.hid (blk_in KN.out hb1.out)
  have J1 := Lib.hid (blk_in KS.out hb1.out)
  replace hb1 := Lib.hid (HBW.out.trans (hb1.out.mono HBW.out.size))
  clear n0 n1 s0 s1 s2 s3 nl sl k0 k1 k2 f0 f1 hgb hab
  obtain ⟨n0, n1⟩ := cells2 K1.out; obtain ⟨s0, s1, s2, s3⟩ := cells4s J1.out; have nl := lt_of K1.out; have sl := lt_of J1.out
  obtain rfl : wt = R0 := HWT.out.trans HR0.out.symm
  by_cases h2 : wt = 2
  · have HE := Lib.hid (show R = idxE Lnk.tgt n.links ((k : Int), pt) by rw [HRL.out, HPT.out]; unfold linkK; rw [if_pos (by rw [← HWT.out]; exact h2)])
    subst h2
    go_wp2_with (go_at_call 144; with_reducible refine (CT.out _ pt hb1.out).mono ?_; rintro e w9 ⟨rfl, hb9⟩; have HB9 := Lib.hid (hb1.out.trans (hb9.mono hb1.out.size)); clear hb9)
    go_ret2
    refine ⟨?_, HB9.out⟩
    rw [HE.out]
    rfl
  · by_cases h3 : wt = 3
    · have HE := Lib.hid (show R = idxE Lnk.src n.links ((k : Int), pt) by rw [HRL.out, HPT.out]; unfold linkK; rw [if_neg (by rw [← HWT.out]; exact h2), if_pos (by rw [← HWT.out]; exact h3)])
      subst h3
      go_wp2_with (go_at_call 144; with_reducible refine (CS.out _ pt hb1.out).mono ?_; rintro e w9 ⟨rfl, hb9⟩; have HB9 := Lib.hid (hb1.out.trans (hb9.mono hb1.out.size)); clear hb9)
      go_ret2
      refine ⟨?_, HB9.out⟩
      rw [HE.out]
      rfl
    · have HE := Lib.hid (show R = -1 by rw [HRL.out]; exact link_none (by rw [← HWT.out]; exact h2) (by rw [← HWT.out]; exact h3))
      have d2 : (wt == 2) = false := by simpa using h2
      have d3 : (wt == 3) = false := by simpa using h3
      go_wp2_with fail
      go_ret2
      refine ⟨?_, hb1.out⟩
      rw [HE.out]
      rfl

set_option maxHeartbeats 1600000 in
theorem iready_any (want q h steps : Int) (w : World) :
    Calls Try.prog 142 #[.int .i64 want, .int .i64 q, .int .i64 h, .int .i64 steps] w fun e w' => e = .returned (.bool (readyB want q h steps)) ∧ w = w' := by
  obtain ⟨R, hR⟩ : ∃ R, R = readyB want q h steps := ⟨_, rfl⟩
  rw [← hR]
  have HR := Lib.hid hR
  clear hR
  by_cases h1 : steps < 20000
  case neg =>
    have d1 : decide (steps ≥ 20000) = true := decide_eq_true (by omega)
    have d1' : decide (20000 ≤ steps) = true := decide_eq_true (by omega)
    have HE := Lib.hid (show R = false by rw [HR.out]; unfold readyB; rw [decide_eq_false h1]; rfl)
    go_enter Try.func142, Try.ntmps142
    go_wp2_with fail
    go_ret
    exact ⟨ret_bool HE.out, rfl⟩
  have d1 : decide (steps ≥ 20000) = false := decide_eq_false (by omega)
  have d1' : decide (20000 ≤ steps) = false := decide_eq_false (by omega)
  by_cases h2 : want = 0
  · have HE := Lib.hid (show R = false by rw [HR.out]; unfold readyB; rw [if_pos h2]; simp)
    subst h2
    go_enter Try.func142, Try.ntmps142
    go_wp2_with fail
    go_ret
    exact ⟨ret_bool HE.out, rfl⟩
  have e2 : (want == 0) = false := by simpa using h2
  by_cases h3 : want = 2
  · have HE := Lib.hid (show R = decide (0 < q) by rw [HR.out]; unfold readyB; rw [if_neg h2, if_pos h3, decide_eq_true h1]; rfl)
    subst h3
    clear h2
    go_enter Try.func142, Try.ntmps142
    go_wp2_with fail
    go_ret
    exact ⟨ret_bool HE.out, rfl⟩
  have e3 : (want == 2) = false := by simpa using h3
  by_cases h4 : want = 3
  · have HE := Lib.hid (show R = decide (h < 400) by rw [HR.out]; unfold readyB; rw [if_neg h2, if_neg h3, if_pos h4, decide_eq_true h1]; rfl)
    subst h4
    clear h2 h3
    go_enter Try.func142, Try.ntmps142
    go_wp2_with fail
    go_ret
    exact ⟨ret_bool HE.out, rfl⟩
  have e4 : (want == 3) = false := by simpa using h4
  have HE := Lib.hid (show R = true by rw [HR.out]; unfold readyB; rw [if_neg h2, if_neg h3, if_neg h4, decide_eq_true h1]; rfl)
  go_enter Try.func142, Try.ntmps142
  go_wp2_with fail
  go_ret
  exact ⟨ret_bool HE.out, rfl⟩

set_option maxRecDepth 100000 in
set_option maxHeartbeats 8000000 in
theorem ican_any (v u : Value) (n : Net) (s : Stt) (k : Nat) (w : World) (hv : NetV w v n) (hu : StV w u s) (hg : GoodSt n s) (hk : k < n.progs.length) :
    Calls Try.prog 100 #[v, u, .int .i64 (k : Int)] w fun e w' => e = .returned (.bool (canB n s k)) ∧ Below w.heap.size w w' := by
  have CN := Lib.hid (fun (W : World) (hw : Below w.heap.size w W) => inext_any v u n s k W (hv.below hw) (hu.below hw) hg hk)
  obtain ⟨pv, lv, rfl, hp, hl⟩ := hv
  obtain ⟨av, qv, rv, rfl, ha, hq, hr⟩ := hu
  have HP := Lib.hid hp
  have HL := Lib.hid hl
  have HA := Lib.hid ha
  have HQ := Lib.hid hq
  have HR := Lib.hid hr
  have LP := hp.len
  have LL := hl.len
  have LA := ha.len
  have LQ := hq.len
  have LR := hr.len
  obtain ⟨pl, hpl⟩ : ∃ z, z = n.progs.length := ⟨_, rfl⟩
  obtain ⟨ll, hll⟩ : ∃ z, z = n.links.length := ⟨_, rfl⟩
  obtain ⟨al, hal⟩ : ∃ z, z = s.acts.length := ⟨_, rfl⟩
  obtain ⟨ql, hql⟩ : ∃ z, z = s.queues.length := ⟨_, rfl⟩
  obtain ⟨rl, hrl⟩ : ∃ z, z = s.sent.length := ⟨_, rfl⟩
  obtain ⟨st, hst⟩ : ∃ z, z = s.steps := ⟨_, rfl⟩
  obtain ⟨pa, pcap, rfl⟩ := hp.shape
  obtain ⟨la, lcap, rfl⟩ := hl.shape
  obtain ⟨aa, ac, rfl⟩ := ha.shape
  obtain ⟨qa, qc, rfl⟩ := hq.shape
  obtain ⟨ra, rc, rfl⟩ := hr.shape
  clear hp hl ha hq hr
  obtain ⟨R, hR⟩ : ∃ R, R = canB n s k := ⟨_, rfl⟩
  have HRR := Lib.hid hR
  rw [← hR]
  clear hR
  simp only [← hpl, ← hll, ← hal, ← hql, ← hrl, ← hst] at HP HL HA HQ HR CN LP LL LA LQ LR ⊢
  have NP := Lib.hid hpl
  have NL := Lib.hid hll
  have NA := Lib.hid hal
  have NQ := Lib.hid hql
  have NR := Lib.hid hrl
  have NS := Lib.hid hst
  clear hpl hll hal hql hrl hst
  have hb := Lib.hid (((Below.refl w.heap.size w).al (.cells #[.slice pa pl pcap, .slice la ll lcap] 34)).al (.cells #[.slice aa al ac, .slice qa ql qc, .slice ra rl rc, .int .i64 st] 53))
  have hH0 := Lib.hid (hp21 w (.cells #[.slice pa pl pcap, .slice la ll lcap] 34) (.cells #[.slice aa al ac, .slice qa ql qc, .slice ra rl rc, .int .i64 st] 53))
  have hH1 := Lib.hid (hp2 w (.cells #[.slice pa pl pcap, .slice la ll lcap] 34) (.cells #[.slice aa al ac, .slice qa ql qc, .slice ra rl rc, .int .i64 st] 53))
  obtain ⟨wt, hwt⟩ : ∃ q, q = wantK n s k := ⟨_, rfl⟩
  obtain ⟨lk, hlk⟩ : ∃ q, q = linkK n s k := ⟨_, rfl⟩
  rw [← hwt, ← hlk] at CN
  have CR := Lib.hid (fun (q h : Int) (W : World) => iready_any wt q h st W)
  by_cases hw : wt = 2 ∨ wt = 3
  case neg =>
    have el : lk = -1 := by rw [hlk]; exact link_none (by rw [← hwt]; omega) (by rw [← hwt]; omega)
    have HE := Lib.hid (show R = readyB wt 0 0 st by rw [HRR.out]; unfold canB readyB; rw [← hwt, ← NS.out, if_neg (show ¬ wt = 2 by omega), if_neg (show ¬ wt = 3 by omega), if_neg (show ¬ wt = 2 by omega), if_neg (show ¬ wt = 3 by omega)])
    subst el
    clear hw hwt hlk
    go_enter Try.func100, Try.ntmps100
    go_wp2_with (first | (go_at_call 142; with_reducible refine (CR.out _ _ _).mono ?_; rintro e w2 ⟨rfl, rfl⟩) | (go_at_call 105; with_reducible refine (CN.out _ hb.out).mono ?_; rintro e w1 ⟨rfl, hb1⟩; have HB1 := Lib.hid (hb.out.trans (hb1.mono hb.out.size)); have K1 := Lib.hid (blk_in hH0.out hb1); have J1 := Lib.hid (blk_in hH1.out hb1); obtain ⟨n0, n1⟩ := cells2 K1.out; obtain ⟨s0, s1, s2, s3⟩ := cells4s J1.out; have nl := lt_of K1.out; have sl := lt_of J1.out; clear hb1))
    go_ret
    exact ⟨ret_bool HE.out, HB1.out⟩
  obtain ⟨j, j1, j2, _⟩ := hg.link hk (hwt ▸ hw)
  obtain ⟨y, hy⟩ : ∃ y, s.queues[j]? = some y := ⟨_, List.getElem?_eq_getElem (by rw [hg.lq]; exact j2)⟩
  obtain ⟨z, hz⟩ : ∃ z, s.sent[j]? = some z := ⟨_, List.getElem?_eq_getElem (by rw [hg.lr]; exact j2)⟩
  obtain ⟨qb, qo, cq, hqa, hqb, f0, fs⟩ := HQ.out.atb hy
  obtain ⟨rb, ro, cr, hra, hrb, g0, gs⟩ := HR.out.atb hz
  subst hqa
  subst hra
  obtain ⟨va, vc, rfl⟩ := fs.shape
  obtain ⟨xa, xc, rfl⟩ := gs.shape
  obtain ⟨vl, hvl⟩ : ∃ q, q = y.length := ⟨_, rfl⟩
  obtain ⟨xl, hxl⟩ : ∃ q, q = z.length := ⟨_, rfl⟩
  rw [← hvl] at f0
  rw [← hxl] at g0
  obtain rfl : lk = (j : Int) := hlk.trans j1
  have HE := Lib.hid (show R = readyB wt (vl : Int) (xl : Int) st by rw [HRR.out]; unfold canB; rw [← hwt, j1, ← NS.out]; unfold rowAt; rw [Int.toNat_natCast, getD_at hy, getD_at hz, ← hvl, ← hxl])
  have hjq : j < ql := by have := NQ.out; have := hg.lq; omega
  have hjr : j < rl := by have := NR.out; have := hg.lr; omega
  have dl : ((j : Int) == -1) = false := by rw [beq_eq_false_iff_ne]; omega
  clear hw hwt hlk j1 j2 hy hz fs gs hvl hxl
  go_enter Try.func100, Try.ntmps100
  go_upto_region 4 with (go_at_call 105; with_reducible refine (CN.out _ hb.out).mono ?_; rintro e w1 ⟨rfl, hb1⟩; have HB1 := Lib.hid (hb.out.trans (hb1.mono hb.out.size)); have K1 := Lib.hid (blk_in hH0.out hb1); have J1 := Lib.hid (blk_in hH1.out hb1); obtain ⟨n0, n1⟩ := cells2 K1.out; obtain ⟨s0, s1, s2, s3⟩ := cells4s J1.out; have nl := lt_of K1.out; have sl := lt_of J1.out; clear hb1)
  replace f0 := (HB1.out.cell (p := ⟨qb, qo + j, none⟩) hqb).trans f0
  replace g0 := (HB1.out.cell (p := ⟨rb, ro + j, none⟩) hrb).trans g0
  replace hqb : qb < w1.heap.size := Nat.lt_of_lt_of_le hqb HB1.out.size
  replace hrb : rb < w1.heap.size := Nat.lt_of_lt_of_le hrb HB1.out.size
  go_region_held3 (fun w' => w'.cell? ⟨w.heap.size + 1, 1, none⟩ = some (.slice (some ⟨qb, qo, none⟩) ql qc) ∧ w'.cell? ⟨w.heap.size + 1, 2, none⟩ = some (.slice (some ⟨rb, ro, none⟩) rl rc) ∧ w'.cell? ⟨w.heap.size + 1, 3, none⟩ = some (.int .i64 st) ∧ w'.cell? ⟨qb, qo + j, none⟩ = some (.slice va vl vc) ∧ w'.cell? ⟨rb, ro + j, none⟩ = some (.slice xa xl xc)) (go_keep) (first | (go_at_call 142; refine (CR.out _ _ _).mono ?_; rintro e w2 ⟨rfl, rfl⟩))
  all_goals
    go_wp2_with fail
    go_ret
    first | exact ⟨ret_bool HE.out, HB1.out⟩ | exact ⟨ret_bool HE.out, HB1.out.drew⟩
set_option maxRecDepth 100000 in
set_option maxHeartbeats 8000000 in
theorem icanstep_any (v u : Value) (n : Net) (s : Stt) (k : Int) (w : World) (hv : NetV w v n) (hu : StV w u s) :
    Calls Try.prog 47 #[v, u, .int .i64 k] w fun e w' => e = .returned (.bool (canStepR0 n s k)) ∧ Below w.heap.size w w' := by
  have CI := Lib.hid (fun (W : World) (hw : Below w.heap.size w W) => iisst_any v u n s W (hv.below hw) (hu.below hw))
  have CH := Lib.hid (fun (W : World) (hw : Below w.heap.size w W) => ispro_any v n k W (hv.below hw))
  have CC := Lib.hid (fun (W : World) (i : Nat) (hw : Below w.heap.size w W) (hg : GoodSt n s) (hk : i < n.progs.length) => ican_any v u n s i W (hv.below hw) (hu.below hw) hg hk)
  obtain ⟨pv, lv, rfl, hp, hl⟩ := hv
  obtain ⟨av, qv, rv, rfl, ha, hq, hr⟩ := hu
  have HP := Lib.hid hp
  have HL := Lib.hid hl
  have HA := Lib.hid ha
  have HQ := Lib.hid hq
  have HR := Lib.hid hr
  have LP := hp.len
  have LL := hl.len
  have LA := ha.len
  have LQ := hq.len
  have LR := hr.len
  obtain ⟨pl, hpl⟩ : ∃ z, z = n.progs.length := ⟨_, rfl⟩
  obtain ⟨ll, hll⟩ : ∃ z, z = n.links.length := ⟨_, rfl⟩
  obtain ⟨al, hal⟩ : ∃ z, z = s.acts.length := ⟨_, rfl⟩
  obtain ⟨ql, hql⟩ : ∃ z, z = s.queues.length := ⟨_, rfl⟩
  obtain ⟨rl, hrl⟩ : ∃ z, z = s.sent.length := ⟨_, rfl⟩
  obtain ⟨st, hst⟩ : ∃ z, z = s.steps := ⟨_, rfl⟩
  obtain ⟨pa, pcap, rfl⟩ := hp.shape
  obtain ⟨la, lcap, rfl⟩ := hl.shape
  obtain ⟨aa, ac, rfl⟩ := ha.shape
  obtain ⟨qa, qc, rfl⟩ := hq.shape
  obtain ⟨ra, rc, rfl⟩ := hr.shape
  clear hp hl ha hq hr
  obtain ⟨R, hR⟩ : ∃ R, R = canStepR0 n s k := ⟨_, rfl⟩
  have HRR := Lib.hid hR
  rw [← hR]
  clear hR
  have HLP := Lib.hid hpl
  simp only [← hpl, ← hll, ← hal, ← hql, ← hrl, ← hst] at CI CH CC LP ⊢
  have NP := Lib.hid hpl
  have NL := Lib.hid hll
  have NA := Lib.hid hal
  have NQ := Lib.hid hql
  have NR := Lib.hid hrl
  have NS := Lib.hid hst
  clear hpl hll hal hql hrl hst
  have hb := Lib.hid (((Below.refl w.heap.size w).al (.cells #[.slice pa pl pcap, .slice la ll lcap] 34)).al (.cells #[.slice aa al ac, .slice qa ql qc, .slice ra rl rc, .int .i64 st] 53))
  have hH0 := Lib.hid (hp21 w (.cells #[.slice pa pl pcap, .slice la ll lcap] 34) (.cells #[.slice aa al ac, .slice qa ql qc, .slice ra rl rc, .int .i64 st] 53))
  have hH1 := Lib.hid (hp2 w (.cells #[.slice pa pl pcap, .slice la ll lcap] 34) (.cells #[.slice aa al ac, .slice qa ql qc, .slice ra rl rc, .int .i64 st] 53))
  cases hs : isStateR0 n s with
  | false =>
    rw [hs] at CI
    have HE := Lib.hid (show R = false by rw [HRR.out]; unfold canStepR0; rw [hs]; rfl)
    clear hs
    go_enter Try.func47, Try.ntmps47
    go_wp2_with (go_at_call 45; with_reducible refine (CI.out _ hb.out).mono ?_; rintro e w1 ⟨rfl, hb1⟩; have HB1 := Lib.hid (hb.out.trans (hb1.mono hb.out.size)); have K1 := Lib.hid (blk_in hH0.out hb1); have J1 := Lib.hid (blk_in hH1.out hb1); obtain ⟨n0, n1⟩ := cells2 K1.out; obtain ⟨s0, s1, s2, s3⟩ := cells4s J1.out; have nl := lt_of K1.out; have sl := lt_of J1.out; clear hb1)
    go_ret
    exact ⟨ret_bool HE.out, HB1.out⟩
  | true =>
    rw [hs] at CI
    have HG := Lib.hid (isState_good hs)
    by_cases hk : 0 ≤ k ∧ k < (pl : Int)
    case neg =>
      have HE := Lib.hid (show R = false by rw [HRR.out]; unfold canStepR0 hasP; rw [← NP.out, decide_eq_false hk]; simp)
      have CH2 := Lib.hid (fun (W : World) (hw : Below w.heap.size w W) => (show Calls Try.prog 99 #[.agg #[.slice pa pl pcap, .slice la ll lcap], .int .i64 k] W fun e w' => e = .returned (.bool false) ∧ Below W.heap.size W w' by have q := CH.out W hw; rw [decide_eq_false hk] at q; exact q))
      clear hs hk
      go_enter Try.func47, Try.ntmps47
      go_wp2_with (first | (go_at_call 99; with_reducible refine (CH2.out _ HB1.out).mono ?_; rintro e w2 ⟨rfl, hb2⟩; have HB2 := Lib.hid (HB1.out.trans (hb2.mono HB1.out.size)); have K2 := Lib.hid (blk_in K1.out hb2); have J2 := Lib.hid (blk_in J1.out hb2); clear n0 n1 s0 s1 s2 s3 nl sl; obtain ⟨n0, n1⟩ := cells2 K2.out; obtain ⟨s0, s1, s2, s3⟩ := cells4s J2.out; have nl := lt_of K2.out; have sl := lt_of J2.out; clear hb2) | (go_at_call 45; with_reducible refine (CI.out _ hb.out).mono ?_; rintro e w1 ⟨rfl, hb1⟩; have HB1 := Lib.hid (hb.out.trans (hb1.mono hb.out.size)); have K1 := Lib.hid (blk_in hH0.out hb1); have J1 := Lib.hid (blk_in hH1.out hb1); obtain ⟨n0, n1⟩ := cells2 K1.out; obtain ⟨s0, s1, s2, s3⟩ := cells4s J1.out; have nl := lt_of K1.out; have sl := lt_of J1.out; clear hb1))
      go_ret
      exact ⟨ret_bool HE.out, HB2.out⟩
    obtain ⟨i, rfl⟩ : ∃ i : Nat, k = i := ⟨k.toNat, by omega⟩
    have hi : i < n.progs.length := by have := NP.out; omega
    have HE := Lib.hid (show R = canB n s i by rw [HRR.out]; unfold canStepR0 hasP; rw [hs, ← NP.out, decide_eq_true hk, Int.toNat_natCast]; rfl)
    have CH2 := Lib.hid (fun (W : World) (hw : Below w.heap.size w W) => (show Calls Try.prog 99 #[.agg #[.slice pa pl pcap, .slice la ll lcap], .int .i64 (i : Int)] W fun e w' => e = .returned (.bool true) ∧ Below W.heap.size W w' by have q := CH.out W hw; rw [decide_eq_true hk] at q; exact q))
    have CC2 := Lib.hid (fun (W : World) (hw : Below w.heap.size w W) => CC.out W i hw HG.out (by have := NP.out; omega))
    rw [← HE.out] at CC2
    clear hs hk hi
    go_enter Try.func47, Try.ntmps47
    go_wp2_with (first | (go_at_call 100; refine (CC2.out _ HB2.out).mono ?_; rintro e w3 ⟨rfl, hb3⟩; have HB3 := Lib.hid (HB2.out.trans (hb3.mono HB2.out.size)); clear hb3) | (go_at_call 99; with_reducible refine (CH2.out _ HB1.out).mono ?_; rintro e w2 ⟨rfl, hb2⟩; have HB2 := Lib.hid (HB1.out.trans (hb2.mono HB1.out.size)); have K2 := Lib.hid (blk_in K1.out hb2); have J2 := Lib.hid (blk_in J1.out hb2); clear n0 n1 s0 s1 s2 s3 nl sl; obtain ⟨n0, n1⟩ := cells2 K2.out; obtain ⟨s0, s1, s2, s3⟩ := cells4s J2.out; have nl := lt_of K2.out; have sl := lt_of J2.out; clear hb2) | (go_at_call 45; with_reducible refine (CI.out _ hb.out).mono ?_; rintro e w1 ⟨rfl, hb1⟩; have HB1 := Lib.hid (hb.out.trans (hb1.mono hb.out.size)); have K1 := Lib.hid (blk_in hH0.out hb1); have J1 := Lib.hid (blk_in hH1.out hb1); obtain ⟨n0, n1⟩ := cells2 K1.out; obtain ⟨s0, s1, s2, s3⟩ := cells4s J1.out; have nl := lt_of K1.out; have sl := lt_of J1.out; clear hb1))
    go_ret
    exact ⟨rfl, HB3.out⟩

set_option maxRecDepth 100000 in
set_option maxHeartbeats 8000000 in
theorem iquiet_any (v u : Value) (n : Net) (s : Stt) (w : World) (hv : NetV w v n) (hu : StV w u s) (hg : GoodSt n s) :
    Calls Try.prog 102 #[v, u] w fun e w' => e = .returned (.bool (upTo (fun k => !canB n s k) n.progs.length)) ∧ Below w.heap.size w w' := by
  have CC := Lib.hid (fun (W : World) (i : Nat) (hw : Below w.heap.size w W) (hk : i < n.progs.length) => ican_any v u n s i W (hv.below hw) (hu.below hw) hg hk)
  obtain ⟨pv, lv, rfl, hp, hl⟩ := hv
  obtain ⟨av, qv, rv, rfl, ha, hq, hr⟩ := hu
  have HP := Lib.hid hp
  have HL := Lib.hid hl
  have HA := Lib.hid ha
  have HQ := Lib.hid hq
  have HR := Lib.hid hr
  have LP := hp.len
  have LL := hl.len
  have LA := ha.len
  have LQ := hq.len
  have LR := hr.len
  obtain ⟨pl, hpl⟩ : ∃ z, z = n.progs.length := ⟨_, rfl⟩
  obtain ⟨ll, hll⟩ : ∃ z, z = n.links.length := ⟨_, rfl⟩
  obtain ⟨al, hal⟩ : ∃ z, z = s.acts.length := ⟨_, rfl⟩
  obtain ⟨ql, hql⟩ : ∃ z, z = s.queues.length := ⟨_, rfl⟩
  obtain ⟨rl, hrl⟩ : ∃ z, z = s.sent.length := ⟨_, rfl⟩
  obtain ⟨st, hst⟩ : ∃ z, z = s.steps := ⟨_, rfl⟩
  obtain ⟨pa, pcap, rfl⟩ := hp.shape
  obtain ⟨la, lcap, rfl⟩ := hl.shape
  obtain ⟨aa, ac, rfl⟩ := ha.shape
  obtain ⟨qa, qc, rfl⟩ := hq.shape
  obtain ⟨ra, rc, rfl⟩ := hr.shape
  clear hp hl ha hq hr
  obtain ⟨R, hR⟩ : ∃ R, R = upTo (fun k => !canB n s k) n.progs.length := ⟨_, rfl⟩
  have HRR := Lib.hid hR
  rw [← hR]
  clear hR
  simp only [← hpl, ← hll, ← hal, ← hql, ← hrl, ← hst] at CC LP ⊢
  have NP := Lib.hid hpl
  have NL := Lib.hid hll
  have NA := Lib.hid hal
  have NQ := Lib.hid hql
  have NR := Lib.hid hrl
  have NS := Lib.hid hst
  clear hpl hll hal hql hrl hst
  have hb := Lib.hid (((Below.refl w.heap.size w).al (.cells #[.slice pa pl pcap, .slice la ll lcap] 34)).al (.cells #[.slice aa al ac, .slice qa ql qc, .slice ra rl rc, .int .i64 st] 53))
  have hH0 := Lib.hid (hp21 w (.cells #[.slice pa pl pcap, .slice la ll lcap] 34) (.cells #[.slice aa al ac, .slice qa ql qc, .slice ra rl rc, .int .i64 st] 53))
  have hH1 := Lib.hid (hp2 w (.cells #[.slice pa pl pcap, .slice la ll lcap] 34) (.cells #[.slice aa al ac, .slice qa ql qc, .slice ra rl rc, .int .i64 st] 53))
  go_enter Try.func102, Try.ntmps102
  go_wp2_with fail
  obtain ⟨w0, hw0⟩ : ∃ W, W = (w.alloc (.cells #[.slice pa pl pcap, .slice la ll lcap] 34)).alloc (.cells #[.slice aa al ac, .slice qa ql qc, .slice ra rl rc, .int .i64 st] 53) := ⟨_, rfl⟩
  have HB0 := Lib.hid (show Below w.heap.size w w0 by rw [hw0]; exact hb.out)
  have K0 := Lib.hid (show w0.heap[w.heap.size]? = some (.cells #[.slice pa pl pcap, .slice la ll lcap] 34) by rw [hw0]; exact hH0.out)
  have J0 := Lib.hid (show w0.heap[w.heap.size + 1]? = some (.cells #[.slice aa al ac, .slice qa ql qc, .slice ra rl rc, .int .i64 st] 53) by rw [hw0]; exact hH1.out)
  rw [← hw0]
  clear hw0 hb hH0 hH1
  go_loopw [9] (fun i wr => ∃ k : Nat, k ≤ pl ∧ i = .int .i64 k ∧ Hid (upTo (fun k => !canB n s k) k = true) ∧ Hid (Below w0.heap.size w0 wr)) (fun i _ => pl - (intOf i).toNat)
  case atStart => exact ⟨0, Nat.zero_le _, rfl, Lib.hid (by simp [upTo]), Lib.hid (Below.refl _ _)⟩
  case round =>
    obtain ⟨k, hk, rfl, HU, HB⟩ := hrel
    by_cases hlt : k < pl
    case pos =>
      have K1 := Lib.hid (blk_in K0.out HB.out)
      have J1 := Lib.hid (blk_in J0.out HB.out)
      obtain ⟨n0, n1⟩ := cells2 K1.out; obtain ⟨s0, s1, s2, s3⟩ := cells4s J1.out; have nl := lt_of K1.out; have sl := lt_of J1.out
      have CK := Lib.hid (CC.out wr k (HB0.out.trans (HB.out.mono HB0.out.size)) (by have := NP.out; omega))
      have HBE := Lib.hid (HB0.out.trans (HB.out.mono HB0.out.size))
      cases hc : canB n s k with
      | false =>
        rw [hc] at CK
        have HU2 := Lib.hid (upTo_step HU.out (show (!canB n s k) = true by rw [hc]; rfl))
        clear hc
        go_wp2_with (go_at_call 100; refine CK.out.mono ?_; rintro e w3 ⟨rfl, hb3⟩; have HB3 := Lib.hid (HB.out.trans (hb3.mono HB.out.size)); clear hb3)
        go_roundw
        case rel => exact ⟨k + 1, by omega, by go_num, HU2, HB3⟩
        case measure => simp [intOf]; omega
      | true =>
        rw [hc] at CK
        have HE := Lib.hid (show R = false by rw [HRR.out]; exact upTo_no (by have := NP.out; omega) (show (!canB n s k) = false by rw [hc]; rfl))
        clear hc
        go_wp2_with (go_at_call 100; refine CK.out.mono ?_; rintro e w3 ⟨rfl, hb3⟩; have HB3 := Lib.hid (HB.out.trans (hb3.mono HB.out.size)); clear hb3)
        go_ret
        exact ⟨ret_bool HE.out, HB0.out.trans (HB3.out.mono HB0.out.size)⟩
    have HE := Lib.hid (show R = true by rw [HRR.out]; have := HU.out; rw [show k = pl by omega, NP.out] at this; exact this)
    go_wp2_with fail
    go_ret
    exact ⟨ret_bool HE.out, HB0.out.trans (HB.out.mono HB0.out.size)⟩
set_option maxRecDepth 100000 in
set_option maxHeartbeats 8000000 in
theorem iisquiet_any (v u : Value) (n : Net) (s : Stt) (w : World) (hv : NetV w v n) (hu : StV w u s) :
    Calls Try.prog 49 #[v, u] w fun e w' => e = .returned (.bool (isQuietR0 n s)) ∧ Below w.heap.size w w' := by
  have CI := Lib.hid (fun (W : World) (hw : Below w.heap.size w W) => iisst_any v u n s W (hv.below hw) (hu.below hw))
  have CC := Lib.hid (fun (W : World) (hw : Below w.heap.size w W) (hg : GoodSt n s) => iquiet_any v u n s W (hv.below hw) (hu.below hw) hg)
  obtain ⟨pv, lv, rfl, hp, hl⟩ := hv
  obtain ⟨av, qv, rv, rfl, ha, hq, hr⟩ := hu
  have HP := Lib.hid hp
  have HL := Lib.hid hl
  have HA := Lib.hid ha
  have HQ := Lib.hid hq
  have HR := Lib.hid hr
  have LP := hp.len
  have LL := hl.len
  have LA := ha.len
  have LQ := hq.len
  have LR := hr.len
  obtain ⟨pl, hpl⟩ : ∃ z, z = n.progs.length := ⟨_, rfl⟩
  obtain ⟨ll, hll⟩ : ∃ z, z = n.links.length := ⟨_, rfl⟩
  obtain ⟨al, hal⟩ : ∃ z, z = s.acts.length := ⟨_, rfl⟩
  obtain ⟨ql, hql⟩ : ∃ z, z = s.queues.length := ⟨_, rfl⟩
  obtain ⟨rl, hrl⟩ : ∃ z, z = s.sent.length := ⟨_, rfl⟩
  obtain ⟨st, hst⟩ : ∃ z, z = s.steps := ⟨_, rfl⟩
  obtain ⟨pa, pcap, rfl⟩ := hp.shape
  obtain ⟨la, lcap, rfl⟩ := hl.shape
  obtain ⟨aa, ac, rfl⟩ := ha.shape
  obtain ⟨qa, qc, rfl⟩ := hq.shape
  obtain ⟨ra, rc, rfl⟩ := hr.shape
  clear hp hl ha hq hr
  obtain ⟨R, hR⟩ : ∃ R, R = isQuietR0 n s := ⟨_, rfl⟩
  have HRR := Lib.hid hR
  rw [← hR]
  clear hR
  simp only [← hpl, ← hll, ← hal, ← hql, ← hrl, ← hst] at CI CC LP ⊢
  have NP := Lib.hid hpl
  have NL := Lib.hid hll
  have NA := Lib.hid hal
  have NQ := Lib.hid hql
  have NR := Lib.hid hrl
  have NS := Lib.hid hst
  clear hpl hll hal hql hrl hst
  have hb := Lib.hid (((Below.refl w.heap.size w).al (.cells #[.slice pa pl pcap, .slice la ll lcap] 34)).al (.cells #[.slice aa al ac, .slice qa ql qc, .slice ra rl rc, .int .i64 st] 53))
  have hH0 := Lib.hid (hp21 w (.cells #[.slice pa pl pcap, .slice la ll lcap] 34) (.cells #[.slice aa al ac, .slice qa ql qc, .slice ra rl rc, .int .i64 st] 53))
  have hH1 := Lib.hid (hp2 w (.cells #[.slice pa pl pcap, .slice la ll lcap] 34) (.cells #[.slice aa al ac, .slice qa ql qc, .slice ra rl rc, .int .i64 st] 53))
  cases hs : isStateR0 n s with
  | false =>
    rw [hs] at CI
    have HE := Lib.hid (show R = false by rw [HRR.out]; unfold isQuietR0; rw [hs]; rfl)
    clear hs
    go_enter Try.func49, Try.ntmps49
    go_wp2_with (go_at_call 45; with_reducible refine (CI.out _ hb.out).mono ?_; rintro e w1 ⟨rfl, hb1⟩; have HB1 := Lib.hid (hb.out.trans (hb1.mono hb.out.size)); have K1 := Lib.hid (blk_in hH0.out hb1); have J1 := Lib.hid (blk_in hH1.out hb1); obtain ⟨n0, n1⟩ := cells2 K1.out; obtain ⟨s0, s1, s2, s3⟩ := cells4s J1.out; have nl := lt_of K1.out; have sl := lt_of J1.out; clear hb1)
    go_ret
    exact ⟨ret_bool HE.out, HB1.out⟩
  | true =>
    rw [hs] at CI
    have HG := Lib.hid (isState_good hs)
    have CC2 := Lib.hid (fun (W : World) (hw : Below w.heap.size w W) => CC.out W hw HG.out)
    have HE := Lib.hid (show R = upTo (fun k => !canB n s k) n.progs.length by rw [HRR.out]; unfold isQuietR0; rw [hs]; rfl)
    clear hs
    have HE2 : upTo (fun k => !canB n s k) pl = R := by rw [HE.out, NP.out]
    rw [HE2] at CC2
    go_enter Try.func49, Try.ntmps49
    go_wp2_with (first | (go_at_call 102; refine (CC2.out _ HB1.out).mono ?_; rintro e w3 ⟨rfl, hb3⟩; have HB3 := Lib.hid (HB1.out.trans (hb3.mono HB1.out.size)); clear hb3) | (go_at_call 45; with_reducible refine (CI.out _ hb.out).mono ?_; rintro e w1 ⟨rfl, hb1⟩; have HB1 := Lib.hid (hb.out.trans (hb1.mono hb.out.size)); have K1 := Lib.hid (blk_in hH0.out hb1); have J1 := Lib.hid (blk_in hH1.out hb1); obtain ⟨n0, n1⟩ := cells2 K1.out; obtain ⟨s0, s1, s2, s3⟩ := cells4s J1.out; have nl := lt_of K1.out; have sl := lt_of J1.out; clear hb1))
    go_ret
    exact ⟨rfl, HB3.out⟩
end Go.Proofs.Ytjphamgkigekkaa
