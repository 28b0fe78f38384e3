/-
  Whether a state is valid: the program's answer. No statement of the seat is proved here.
  Whether a state is valid: the model's answer. No statement of the seat is proved here.
  Whether a state is valid: both answers over values and objects in pairs; small words for the laws over states. No statement of the seat is proved here.
-/
import Derived.Test.YtjphamgkigekkaaStM
import Derived.Test.YtjphamgkigekkaaIsNet
import Derived.Deep.RegionHeld3
import Derived.Test.YtjphamgkigekkaaNetOpen
namespace Go.Proofs.Ytjphamgkigekkaa
open Go.RowKit

set_option maxRecDepth 100000 in
set_option maxHeartbeats 8000000 in
theorem iisst_any (v u : Value) (n : Net) (s : Stt) (w : World) (hv : NetV w v n) (hu : StV w u s) :
    Calls Try.prog 45 #[v, u] w fun e w' => e = .returned (.bool (isStateR0 n s)) ∧ Below w.heap.size w w' := by
  have CN := Lib.hid (fun (W : World) (hw : Below w.heap.size w W) => iisnet_any v n W (hv.below hw))
  obtain ⟨R, hR⟩ : ∃ R, R = isStateR0 n s := ⟨_, rfl⟩
  rw [← hR]
  obtain ⟨pv, lv, rfl, hp, hl⟩ := hv
  obtain ⟨av, qv, rv, rfl, ha, hq, hr⟩ := hu
  obtain ⟨acs, qs, rs, st⟩ := s
  obtain ⟨ps, ls⟩ := n
  simp only [] at hp hl ha hq hr ⊢
  have LP := hp.len
  have LL := hl.len
  have LA := ha.len
  have LQ := hq.len
  have LR := hr.len
  replace hR : R = (okN ⟨ps, ls⟩ && (decide (0 ≤ st ∧ st ≤ 20000) && ((decide (ps.length = acs.length) && upTo (actP ps acs) ps.length) && (areS qs ls.length && (areS rs ls.length && upTo (traP ⟨ps, ls⟩ ⟨acs, qs, rs, st⟩) ls.length))))) := hR
  have HP := Lib.hid hp
  have HL := Lib.hid hl
  have HA := Lib.hid ha
  have HQ := Lib.hid hq
  have HR := Lib.hid hr
  have CE := Lib.hid (fun (W : World) (hw : Below w.heap.size w W) => ieqA_any pv av ps acs W (hp.below hw) (ha.below hw))
  have CQ := Lib.hid (fun (W : World) (hw : Below w.heap.size w W) => iares_any qv qs ls.length W (hq.below hw))
  have CR := Lib.hid (fun (W : World) (hw : Below w.heap.size w W) => iares_any rv rs ls.length W (hr.below hw))
  obtain ⟨pa, pcap, rfl⟩ := hp.shape
  obtain ⟨la, lcap, rfl⟩ := hl.shape
  obtain ⟨aa, ac, rfl⟩ := ha.shape
  obtain ⟨qa, qc, rfl⟩ := hq.shape
  obtain ⟨ra, rc, rfl⟩ := hr.shape
  clear hp hl ha hq hr
  obtain ⟨pl, hpl⟩ : ∃ z, z = ps.length := ⟨_, rfl⟩
  obtain ⟨ll, hll⟩ : ∃ z, z = ls.length := ⟨_, rfl⟩
  obtain ⟨al, hal⟩ : ∃ z, z = acs.length := ⟨_, rfl⟩
  obtain ⟨ql, hql⟩ : ∃ z, z = qs.length := ⟨_, rfl⟩
  obtain ⟨rl, hrl⟩ : ∃ z, z = rs.length := ⟨_, rfl⟩
  rw [← hpl] at hR CN HP CE LP ⊢
  rw [← hll] at hR CN HL LL CQ CR ⊢
  rw [← hal] at hR HA CE LA ⊢
  rw [← hql] at HQ CQ LQ ⊢
  rw [← hrl] at HR CR LR ⊢
  have NP := Lib.hid hpl
  have NL := Lib.hid hll
  have NA := Lib.hid hal
  have NQ := Lib.hid hql
  have NR := Lib.hid hrl
  clear hpl hll hal hql hrl
  have hb := Lib.hid (((Below.refl w.heap.size w).al (.cells #[.slice pa pl pcap, .slice la ll lcap] 34)).al (.cells #[.slice aa al ac, .slice qa ql qc, .slice ra rl rc, .int .i64 st] 53))
  have hH0 := Lib.hid (hp21 w (.cells #[.slice pa pl pcap, .slice la ll lcap] 34) (.cells #[.slice aa al ac, .slice qa ql qc, .slice ra rl rc, .int .i64 st] 53))
  have hH1 := Lib.hid (hp2 w (.cells #[.slice pa pl pcap, .slice la ll lcap] 34) (.cells #[.slice aa al ac, .slice qa ql qc, .slice ra rl rc, .int .i64 st] 53))
  cases ho : okN ⟨ps, ls⟩ with
  | false =>
    rw [ho] at CN hR
    obtain rfl : R = false := hR
    clear ho
    go_enter Try.func45, Try.ntmps45
    go_wp2_with (go_at_call 73; with_reducible refine (CN.out _ hb.out).mono ?_; rintro e w2 ⟨rfl, hb2⟩; have HB2 := Lib.hid (hb.out.trans (hb2.mono hb.out.size)); have K2 := Lib.hid (blk_in hH0.out hb2); have J2 := Lib.hid (blk_in hH1.out hb2); obtain ⟨n0, n1⟩ := cells2 K2.out; obtain ⟨s0, s1, s2, s3⟩ := cells4s J2.out; have nl := lt_of K2.out; have sl := lt_of J2.out; clear hb2)
    go_ret
    exact ⟨rfl, HB2.out⟩
  | true =>
    rw [ho] at CN hR
    rw [Bool.true_and] at hR
    by_cases h1 : st < 0
    · have d1 : decide (st < 0) = true := decide_eq_true h1
      rw [decide_eq_false (by omega)] at hR
      obtain rfl : R = false := hR
      clear ho h1
      go_enter Try.func45, Try.ntmps45
      go_wp2_with (go_at_call 73; with_reducible refine (CN.out _ hb.out).mono ?_; rintro e w2 ⟨rfl, hb2⟩; have HB2 := Lib.hid (hb.out.trans (hb2.mono hb.out.size)); have K2 := Lib.hid (blk_in hH0.out hb2); have J2 := Lib.hid (blk_in hH1.out hb2); obtain ⟨n0, n1⟩ := cells2 K2.out; obtain ⟨s0, s1, s2, s3⟩ := cells4s J2.out; have nl := lt_of K2.out; have sl := lt_of J2.out; clear hb2)
      go_ret
      exact ⟨rfl, HB2.out⟩
    have d1 : decide (st < 0) = false := decide_eq_false h1
    by_cases h2 : 20000 < st
    · have d2 : decide (20000 < st) = true := decide_eq_true h2
      have d3 : decide (st > 20000) = true := decide_eq_true h2
      rw [decide_eq_false (by omega)] at hR
      obtain rfl : R = false := hR
      clear ho h1 h2
      go_enter Try.func45, Try.ntmps45
      go_wp2_with (go_at_call 73; with_reducible refine (CN.out _ hb.out).mono ?_; rintro e w2 ⟨rfl, hb2⟩; have HB2 := Lib.hid (hb.out.trans (hb2.mono hb.out.size)); have K2 := Lib.hid (blk_in hH0.out hb2); have J2 := Lib.hid (blk_in hH1.out hb2); obtain ⟨n0, n1⟩ := cells2 K2.out; obtain ⟨s0, s1, s2, s3⟩ := cells4s J2.out; have nl := lt_of K2.out; have sl := lt_of J2.out; clear hb2)
      go_ret
      exact ⟨rfl, HB2.out⟩
    have d2 : decide (20000 < st) = false := decide_eq_false h2
    have d3 : decide (st > 20000) = false := decide_eq_false h2
    rw [decide_eq_true (by omega), Bool.true_and] at hR
    clear h1 h2
    obtain ⟨E, hE⟩ : ∃ E, E = (decide (pl = al) && upTo (actP ps acs) pl) := ⟨_, rfl⟩
    rw [← hE] at hR CE
    clear hE
    cases E with
    | false =>
      obtain rfl : R = false := hR
      clear ho
      go_enter Try.func45, Try.ntmps45
      go_wp2_with (first | (go_at_call 93; with_reducible refine (CE.out _ HB2.out).mono ?_; rintro e w3 ⟨rfl, hb3⟩; have HB3 := Lib.hid (HB2.out.trans (hb3.mono HB2.out.size)); have K3 := Lib.hid (blk_in K2.out hb3); have J3 := Lib.hid (blk_in J2.out hb3); clear n0 n1 s0 s1 s2 s3 nl sl; obtain ⟨n0, n1⟩ := cells2 K3.out; obtain ⟨s0, s1, s2, s3⟩ := cells4s J3.out; have nl := lt_of K3.out; have sl := lt_of J3.out; clear hb3) | (go_at_call 73; with_reducible refine (CN.out _ hb.out).mono ?_; rintro e w2 ⟨rfl, hb2⟩; have HB2 := Lib.hid (hb.out.trans (hb2.mono hb.out.size)); have K2 := Lib.hid (blk_in hH0.out hb2); have J2 := Lib.hid (blk_in hH1.out hb2); obtain ⟨n0, n1⟩ := cells2 K2.out; obtain ⟨s0, s1, s2, s3⟩ := cells4s J2.out; have nl := lt_of K2.out; have sl := lt_of J2.out; clear hb2))
      go_ret
      exact ⟨rfl, HB3.out⟩
    | true =>
      rw [Bool.true_and] at hR
      cases h4 : areS qs ll with
      | false =>
        rw [h4] at hR CQ
        obtain rfl : R = false := hR
        clear ho h4
        go_enter Try.func45, Try.ntmps45
        go_wp2_with (first | (go_at_call 95; with_reducible refine (CQ.out _ HB3.out).mono ?_; rintro e w4 ⟨rfl, rfl⟩) | (go_at_call 93; with_reducible refine (CE.out _ HB2.out).mono ?_; rintro e w3 ⟨rfl, hb3⟩; have HB3 := Lib.hid (HB2.out.trans (hb3.mono HB2.out.size)); have K3 := Lib.hid (blk_in K2.out hb3); have J3 := Lib.hid (blk_in J2.out hb3); clear n0 n1 s0 s1 s2 s3 nl sl; obtain ⟨n0, n1⟩ := cells2 K3.out; obtain ⟨s0, s1, s2, s3⟩ := cells4s J3.out; have nl := lt_of K3.out; have sl := lt_of J3.out; clear hb3) | (go_at_call 73; with_reducible refine (CN.out _ hb.out).mono ?_; rintro e w2 ⟨rfl, hb2⟩; have HB2 := Lib.hid (hb.out.trans (hb2.mono hb.out.size)); have K2 := Lib.hid (blk_in hH0.out hb2); have J2 := Lib.hid (blk_in hH1.out hb2); obtain ⟨n0, n1⟩ := cells2 K2.out; obtain ⟨s0, s1, s2, s3⟩ := cells4s J2.out; have nl := lt_of K2.out; have sl := lt_of J2.out; clear hb2))
        go_ret
        exact ⟨rfl, HB3.out⟩
      | true =>
        rw [h4] at hR CQ
        rw [Bool.true_and] at hR
        cases h5 : areS rs ll with
        | false =>
          rw [h5] at hR CR
          obtain rfl : R = false := hR
          clear ho h4 h5
          go_enter Try.func45, Try.ntmps45
          go_wp2_with (first | (go_at_call 95; with_reducible refine (CR.out _ HB3.out).mono ?_; rintro e w5 ⟨rfl, rfl⟩) | (go_at_call 95; with_reducible refine (CQ.out _ HB3.out).mono ?_; rintro e w4 ⟨rfl, rfl⟩) | (go_at_call 93; with_reducible refine (CE.out _ HB2.out).mono ?_; rintro e w3 ⟨rfl, hb3⟩; have HB3 := Lib.hid (HB2.out.trans (hb3.mono HB2.out.size)); have K3 := Lib.hid (blk_in K2.out hb3); have J3 := Lib.hid (blk_in J2.out hb3); clear n0 n1 s0 s1 s2 s3 nl sl; obtain ⟨n0, n1⟩ := cells2 K3.out; obtain ⟨s0, s1, s2, s3⟩ := cells4s J3.out; have nl := lt_of K3.out; have sl := lt_of J3.out; clear hb3) | (go_at_call 73; with_reducible refine (CN.out _ hb.out).mono ?_; rintro e w2 ⟨rfl, hb2⟩; have HB2 := Lib.hid (hb.out.trans (hb2.mono hb.out.size)); have K2 := Lib.hid (blk_in hH0.out hb2); have J2 := Lib.hid (blk_in hH1.out hb2); obtain ⟨n0, n1⟩ := cells2 K2.out; obtain ⟨s0, s1, s2, s3⟩ := cells4s J2.out; have nl := lt_of K2.out; have sl := lt_of J2.out; clear hb2))
          go_ret
          exact ⟨rfl, HB3.out⟩
        | true =>
          rw [h5] at hR CR
          rw [Bool.true_and] at hR
          have EQ := Lib.hid (areS_parts h4).1
          have ER := Lib.hid (areS_parts h5).1
          have HRR := Lib.hid hR
          clear ho h4 h5 hR
          go_enter Try.func45, Try.ntmps45
          go_wp2_with (first | (go_at_call 95; with_reducible refine (CR.out _ HB3.out).mono ?_; rintro e w5 ⟨rfl, rfl⟩) | (go_at_call 95; with_reducible refine (CQ.out _ HB3.out).mono ?_; rintro e w4 ⟨rfl, rfl⟩) | (go_at_call 93; with_reducible refine (CE.out _ HB2.out).mono ?_; rintro e w3 ⟨rfl, hb3⟩; have HB3 := Lib.hid (HB2.out.trans (hb3.mono HB2.out.size)); have K3 := Lib.hid (blk_in K2.out hb3); have J3 := Lib.hid (blk_in J2.out hb3); clear n0 n1 s0 s1 s2 s3 nl sl; obtain ⟨n0, n1⟩ := cells2 K3.out; obtain ⟨s0, s1, s2, s3⟩ := cells4s J3.out; have nl := lt_of K3.out; have sl := lt_of J3.out; clear hb3) | (go_at_call 73; with_reducible refine (CN.out _ hb.out).mono ?_; rintro e w2 ⟨rfl, hb2⟩; have HB2 := Lib.hid (hb.out.trans (hb2.mono hb.out.size)); have K2 := Lib.hid (blk_in hH0.out hb2); have J2 := Lib.hid (blk_in hH1.out hb2); obtain ⟨n0, n1⟩ := cells2 K2.out; obtain ⟨s0, s1, s2, s3⟩ := cells4s J2.out; have nl := lt_of K2.out; have sl := lt_of J2.out; clear hb2))
          clear n0 n1 s0 s1 s2 s3 nl sl
          obtain ⟨w6, hw6⟩ : ∃ W, W = w3 := ⟨_, rfl⟩
          rw [← hw6] at HB3 K3 J3 ⊢
          clear hw6
          go_loopw [47] (fun i wr => ∃ k : Nat, k ≤ ll ∧ i = .int .i64 k ∧ Hid (upTo (traP ⟨ps, ls⟩ ⟨acs, qs, rs, st⟩) k = true) ∧ Hid (Below w6.heap.size w6 wr)) (fun i _ => ll - (intOf i).toNat)
          case atStart => exact ⟨0, Nat.zero_le _, rfl, Lib.hid (by simp [upTo]), Lib.hid (Below.refl _ _)⟩
          case round =>
            obtain ⟨k, hk, rfl, HU, HB⟩ := hrel
            by_cases hlt : k < ll
            · obtain ⟨x, hx⟩ : ∃ x, ls[k]? = some x := ⟨_, List.getElem?_eq_getElem (by rw [← NL.out]; exact hlt)⟩
              obtain ⟨y, hy⟩ : ∃ y, qs[k]? = some y := ⟨_, List.getElem?_eq_getElem (by have := EQ.out; have := NQ.out; omega)⟩
              obtain ⟨z, hz⟩ : ∃ z, rs[k]? = some z := ⟨_, List.getElem?_eq_getElem (by have := ER.out; have := NR.out; omega)⟩
              have hbw := HB3.out.trans (HB.out.mono HB3.out.size)
              obtain ⟨lb, lo, c, rfl, hlb, e0, e1, e2, e3, e4, es⟩ := (HL.out.below hbw).atb hx
              obtain ⟨qb, qo, cq, rfl, hqb, f0, fs⟩ := (HQ.out.below hbw).atb hy
              obtain ⟨rb, ro, cr, rfl, hrb, g0, gs⟩ := (HR.out.below hbw).atb hz
              have HT := Lib.hid (show traP ⟨ps, ls⟩ ⟨acs, qs, rs, st⟩ k = trafB x y z by unfold traP; rw [getD_at hx, getD_at hy, getD_at hz])
              have GN := Lib.hid (blk_in K3.out HB.out)
              have GS := Lib.hid (blk_in J3.out HB.out)
              clear hx hy hz hbw
              obtain ⟨xf, xo, xt, xi, xk⟩ := x
              simp only [] at e0 e1 e2 e3 e4 es
              have hql1 : k < ql := by have := EQ.out; have := NQ.out; omega
              have hrl1 : k < rl := by have := ER.out; have := NR.out; omega
              obtain ⟨ua, uc, rfl⟩ := es.shape
              obtain ⟨va, vc, rfl⟩ := fs.shape
              obtain ⟨xa, xc, rfl⟩ := gs.shape
              have ES := Lib.hid es
              have FS := Lib.hid fs
              have GS2 := Lib.hid gs
              have CT := Lib.hid (fun (W : World) (hw : Below wr.heap.size wr W) => itraf_any xf xo xt xi xk y z _ _ _ W (ES.out.below hw) (FS.out.below hw) (GS2.out.below hw))
              obtain ⟨ul, hul⟩ : ∃ q, q = xk.length := ⟨_, rfl⟩
              obtain ⟨vl, hvl⟩ : ∃ q, q = y.length := ⟨_, rfl⟩
              obtain ⟨xl, hxl⟩ : ∃ q, q = z.length := ⟨_, rfl⟩
              rw [← hul] at e4 CT
              rw [← hvl] at f0 CT
              rw [← hxl] at g0 CT
              clear es fs gs hul hvl hxl ES FS GS2
              obtain ⟨n0, n1⟩ := cells2 GN.out; obtain ⟨s0, s1, s2, s3⟩ := cells4s GS.out; have nl := lt_of GN.out; have sl := lt_of GS.out
              obtain ⟨T, hT⟩ : ∃ T, T = trafB ⟨xf, xo, xt, xi, xk⟩ y z := ⟨_, rfl⟩
              rw [← hT] at HT CT
              clear hT
              go_upto_region 8 with fail
              obtain ⟨W, hW⟩ : ∃ W, W = wr.alloc (.cells #[.int .i64 xf, .int .i64 xo, .int .i64 xt, .int .i64 xi, .slice ua ul uc] 82) := ⟨_, rfl⟩
              have HBW := Lib.hid (show Below wr.heap.size wr W by rw [hW]; exact (Below.refl _ _).al _)
              have HX := Lib.hid (show W.heap[wr.heap.size]? = some (.cells #[.int .i64 xf, .int .i64 xo, .int .i64 xt, .int .i64 xi, .slice ua ul uc] 82) by rw [hW]; exact hp1 _ _)
              rw [← hW]
              clear hW n0 n1 s0 s1 s2 s3 nl sl e0 e1 e2 e3 e4
              have GS3 := Lib.hid (blk_in GS.out HBW.out)
              obtain ⟨s0, s1, s2, s3⟩ := cells4s GS3.out
              have sl := lt_of GS3.out
              replace f0 := (HBW.out.cell (p := ⟨qb, qo + k, none⟩) hqb).trans f0
              replace g0 := (HBW.out.cell (p := ⟨rb, ro + k, none⟩) hrb).trans g0
              replace hqb : qb < W.heap.size := Nat.lt_of_lt_of_le hqb HBW.out.size
              replace hrb : rb < W.heap.size := Nat.lt_of_lt_of_le hrb HBW.out.size
              obtain ⟨x0, x1, x2, x3, x4⟩ := cells5 HX.out
              have xl2 := lt_of HX.out
              cases T with
              | true =>
                go_region_held3 (fun w' => w'.cell? ⟨wr.heap.size, 0, none⟩ = some (.int .i64 xf) ∧ w'.cell? ⟨wr.heap.size, 1, none⟩ = some (.int .i64 xo) ∧ w'.cell? ⟨wr.heap.size, 2, none⟩ = some (.int .i64 xt) ∧ w'.cell? ⟨wr.heap.size, 3, none⟩ = some (.int .i64 xi) ∧ w'.cell? ⟨wr.heap.size, 4, none⟩ = some (.slice ua ul uc) ∧ w'.cell? ⟨w.heap.size + 1, 1, none⟩ = some (.slice (some ⟨qb, qo, none⟩) ql qc) ∧ w'.cell? ⟨w.heap.size + 1, 2, none⟩ = some (.slice (some ⟨rb, ro, none⟩) rl rc) ∧ w'.cell? ⟨qb, qo + k, none⟩ = some (.slice va vl vc) ∧ w'.cell? ⟨rb, ro + k, none⟩ = some (.slice xa xl xc)) (go_keep) (first | (go_at_call 96; refine (CT.out _ (by first | with_reducible exact HBW.out | with_reducible exact HBW.out.drew)).mono ?_; rintro e w8 ⟨rfl, hb1⟩; have HC1 := Lib.hid (show Below W.heap.size W w8 by first | with_reducible exact hb1 | with_reducible exact cr_d hb1); have x0' := (HC1.out.cell (p := ⟨wr.heap.size, 0, none⟩) xl2).trans x0; have x1' := (HC1.out.cell (p := ⟨wr.heap.size, 1, none⟩) xl2).trans x1; have x2' := (HC1.out.cell (p := ⟨wr.heap.size, 2, none⟩) xl2).trans x2; have x3' := (HC1.out.cell (p := ⟨wr.heap.size, 3, none⟩) xl2).trans x3; have x4' := (HC1.out.cell (p := ⟨wr.heap.size, 4, none⟩) xl2).trans x4; have s1' := (HC1.out.cell (p := ⟨w.heap.size + 1, 1, none⟩) sl).trans s1; have s2' := (HC1.out.cell (p := ⟨w.heap.size + 1, 2, none⟩) sl).trans s2; have f0' := (HC1.out.cell (p := ⟨qb, qo + k, none⟩) hqb).trans f0; have g0' := (HC1.out.cell (p := ⟨rb, ro + k, none⟩) hrb).trans g0; clear hb1))
                all_goals
                  go_wp2_with fail
                  go_roundw
                  case rel => exact ⟨k + 1, by omega, by go_num, Lib.hid (upTo_step HU.out HT.out), Lib.hid (HB.out.trans ((HBW.out.trans (HC1.out.mono HBW.out.size)).mono HB.out.size))⟩
                  case measure => simp [intOf]; omega
              | false =>
                go_region_held3 (fun w' => w'.cell? ⟨wr.heap.size, 0, none⟩ = some (.int .i64 xf) ∧ w'.cell? ⟨wr.heap.size, 1, none⟩ = some (.int .i64 xo) ∧ w'.cell? ⟨wr.heap.size, 2, none⟩ = some (.int .i64 xt) ∧ w'.cell? ⟨wr.heap.size, 3, none⟩ = some (.int .i64 xi) ∧ w'.cell? ⟨wr.heap.size, 4, none⟩ = some (.slice ua ul uc) ∧ w'.cell? ⟨w.heap.size + 1, 1, none⟩ = some (.slice (some ⟨qb, qo, none⟩) ql qc) ∧ w'.cell? ⟨w.heap.size + 1, 2, none⟩ = some (.slice (some ⟨rb, ro, none⟩) rl rc) ∧ w'.cell? ⟨qb, qo + k, none⟩ = some (.slice va vl vc) ∧ w'.cell? ⟨rb, ro + k, none⟩ = some (.slice xa xl xc)) (go_keep) (first | (go_at_call 96; refine (CT.out _ (by first | with_reducible exact HBW.out | with_reducible exact HBW.out.drew)).mono ?_; rintro e w8 ⟨rfl, hb1⟩; have HC1 := Lib.hid (show Below W.heap.size W w8 by first | with_reducible exact hb1 | with_reducible exact cr_d hb1); have x0' := (HC1.out.cell (p := ⟨wr.heap.size, 0, none⟩) xl2).trans x0; have x1' := (HC1.out.cell (p := ⟨wr.heap.size, 1, none⟩) xl2).trans x1; have x2' := (HC1.out.cell (p := ⟨wr.heap.size, 2, none⟩) xl2).trans x2; have x3' := (HC1.out.cell (p := ⟨wr.heap.size, 3, none⟩) xl2).trans x3; have x4' := (HC1.out.cell (p := ⟨wr.heap.size, 4, none⟩) xl2).trans x4; have s1' := (HC1.out.cell (p := ⟨w.heap.size + 1, 1, none⟩) sl).trans s1; have s2' := (HC1.out.cell (p := ⟨w.heap.size + 1, 2, none⟩) sl).trans s2; have f0' := (HC1.out.cell (p := ⟨qb, qo + k, none⟩) hqb).trans f0; have g0' := (HC1.out.cell (p := ⟨rb, ro + k, none⟩) hrb).trans g0; clear hb1))
                all_goals
                  go_wp2_with fail
                  go_ret
                  exact ⟨ret_bool (HRR.out.trans (upTo_no (by exact hlt) HT.out)), HB3.out.trans ((HB.out.trans ((HBW.out.trans (HC1.out.mono HBW.out.size)).mono HB.out.size)).mono HB3.out.size)⟩
            · have HU1 := Lib.hid (show upTo (traP ⟨ps, ls⟩ ⟨acs, qs, rs, st⟩) ll = true by have := HU.out; rwa [show k = ll by omega] at this)
              go_wp2_with fail
              go_ret
              exact ⟨ret_bool (HRR.out.trans HU1.out), HB3.out.trans (HB.out.mono HB3.out.size)⟩

/-- A link of a valid network that comes from no process comes from outside. -/
theorem frm_out {n : Net} (h : okN n = true) {l : Lnk} (hl : l ∈ n.links) : (l.frm = -1 ↔ l.src = outE) ∧ (l.to = -1 ↔ l.tgt = outE) ∧ ¬ (l.src = outE ∧ l.tgt = outE) ∧ isS l.tok = true := by
  obtain ⟨_, h2, _, _⟩ := (okN_iff n).1 h
  obtain ⟨h3, h4, h5⟩ := h2 l hl
  unfold linkL at h3
  rw [Bool.and_eq_true] at h3
  refine ⟨⟨fun e => ?_, fun e => by have := congrArg Prod.fst e; exact this⟩, ⟨fun e => ?_, fun e => by have := congrArg Prod.fst e; exact this⟩, fun q => ?_, h3.1⟩
  · rcases h4 with h4 | h4
    · exact h4
    · obtain ⟨i, p, _, e1, _⟩ := mem_ports.1 h4
      have e2 : l.frm = (i : Int) := by simpa [Lnk.src] using e1
      omega
  · rcases h5 with h5 | h5
    · exact h5
    · obtain ⟨i, p, _, e1, _⟩ := mem_ports.1 h5
      have e2 : l.to = (i : Int) := by simpa [Lnk.tgt] using e1
      omega
  · have := h3.2
    rw [decide_eq_true q.1, decide_eq_true q.2] at this
    simp at this

set_option maxRecDepth 100000 in
set_option maxHeartbeats 8000000 in
theorem sisst_any (v u : Value) (n : Net) (s : Stt) (w : World) (hv : NetV w v n) (hu : StV w u s) :
    Calls Try.prog 43 #[v, u] w fun e w' => e = .returned (.bool (isStateR0 n s)) ∧ Below w.heap.size w w' := by
  have CN := Lib.hid (fun (W : World) (hw : Below w.heap.size w W) => sisnet_any v n W (hv.below hw))
  obtain ⟨R, hR⟩ : ∃ R, R = isStateR0 n s := ⟨_, rfl⟩
  rw [← hR]
  obtain ⟨pv, lv, rfl, hp, hl⟩ := hv
  obtain ⟨av, qv, rv, rfl, ha, hq, hr⟩ := hu
  obtain ⟨acs, qs, rs, st⟩ := s
  obtain ⟨ps, ls⟩ := n
  simp only [] at hp hl ha hq hr ⊢
  have LP := hp.len
  have LL := hl.len
  have LA := ha.len
  have LQ := hq.len
  have LR := hr.len
  replace hR : R = (okN ⟨ps, ls⟩ && (decide (0 ≤ st ∧ st ≤ 20000) && ((decide (ps.length = acs.length) && upTo (actP ps acs) ps.length) && (areS qs ls.length && (areS rs ls.length && upTo (traP ⟨ps, ls⟩ ⟨acs, qs, rs, st⟩) ls.length))))) := hR
  have HP := Lib.hid hp
  have HL := Lib.hid hl
  have HA := Lib.hid ha
  have HQ := Lib.hid hq
  have HR := Lib.hid hr
  have CA := Lib.hid (fun (W : World) (k : Nat) (x : Prg) (y : Act) (c d : Value) (hc : SlI W c x.code) (hd : Sl W d y.regs) => sisact_any (.agg #[.int .i64 x.ins, .int .i64 x.outs, c]) (.agg #[.int .i64 y.pc, d]) x y W ⟨c, rfl, hc⟩ ⟨d, rfl, hd⟩)
  obtain ⟨pa, pcap, rfl⟩ := hp.shape
  obtain ⟨la, lcap, rfl⟩ := hl.shape
  obtain ⟨aa, ac, rfl⟩ := ha.shape
  obtain ⟨qa, qc, rfl⟩ := hq.shape
  obtain ⟨ra, rc, rfl⟩ := hr.shape
  clear hp hl ha hq hr
  obtain ⟨pl, hpl⟩ : ∃ z, z = ps.length := ⟨_, rfl⟩
  obtain ⟨ll, hll⟩ : ∃ z, z = ls.length := ⟨_, rfl⟩
  obtain ⟨al, hal⟩ : ∃ z, z = acs.length := ⟨_, rfl⟩
  obtain ⟨ql, hql⟩ : ∃ z, z = qs.length := ⟨_, rfl⟩
  obtain ⟨rl, hrl⟩ : ∃ z, z = rs.length := ⟨_, rfl⟩
  rw [← hpl] at hR CN HP LP ⊢
  rw [← hll] at hR CN HL LL ⊢
  rw [← hal] at hR HA LA ⊢
  rw [← hql] at HQ LQ ⊢
  rw [← hrl] at HR LR ⊢
  have NP := Lib.hid hpl
  have NL := Lib.hid hll
  have NA := Lib.hid hal
  have NQ := Lib.hid hql
  have NR := Lib.hid hrl
  clear hpl hll hal hql hrl
  have hb := Lib.hid (((Below.refl w.heap.size w).al (.cells #[.slice pa pl pcap, .slice la ll lcap] 34)).al (.cells #[.slice aa al ac, .slice qa ql qc, .slice ra rl rc, .int .i64 st] 53))
  have hH0 := Lib.hid (hp21 w (.cells #[.slice pa pl pcap, .slice la ll lcap] 34) (.cells #[.slice aa al ac, .slice qa ql qc, .slice ra rl rc, .int .i64 st] 53))
  have hH1 := Lib.hid (hp2 w (.cells #[.slice pa pl pcap, .slice la ll lcap] 34) (.cells #[.slice aa al ac, .slice qa ql qc, .slice ra rl rc, .int .i64 st] 53))
  cases ho : okN ⟨ps, ls⟩ with
  | false =>
    rw [ho] at CN hR
    obtain rfl : R = false := hR
    clear ho
    go_enter Try.func43, Try.ntmps43
    go_wp2_with (go_at_call 70; with_reducible refine (CN.out _ hb.out).mono ?_; rintro e w2 ⟨rfl, hb2⟩; have HB2 := Lib.hid (hb.out.trans (hb2.mono hb.out.size)); have K2 := Lib.hid (blk_in hH0.out hb2); have J2 := Lib.hid (blk_in hH1.out hb2); obtain ⟨n0, n1⟩ := cells2 K2.out; obtain ⟨s0, s1, s2, s3⟩ := cells4s J2.out; have nl := lt_of K2.out; have sl := lt_of J2.out; clear hb2)
    go_ret
    exact ⟨rfl, HB2.out⟩
  | true =>
    rw [ho] at CN hR
    rw [Bool.true_and] at hR
    have HOK := Lib.hid ho
    clear ho
    by_cases h1 : al = pl
    case neg =>
      have d1 : ((al : Int) != (pl : Int)) = true := by rw [bne_iff_ne]; omega
      rw [decide_eq_false (show ¬ pl = al by omega)] at hR
      obtain rfl : R = false := by rw [hR]; simp
      clear h1 hR
      go_enter Try.func43, Try.ntmps43
      go_wp2_with (go_at_call 70; with_reducible refine (CN.out _ hb.out).mono ?_; rintro e w2 ⟨rfl, hb2⟩; have HB2 := Lib.hid (hb.out.trans (hb2.mono hb.out.size)); have K2 := Lib.hid (blk_in hH0.out hb2); have J2 := Lib.hid (blk_in hH1.out hb2); obtain ⟨n0, n1⟩ := cells2 K2.out; obtain ⟨s0, s1, s2, s3⟩ := cells4s J2.out; have nl := lt_of K2.out; have sl := lt_of J2.out; clear hb2)
      go_ret
      exact ⟨rfl, HB2.out⟩
    subst h1
    rw [decide_eq_true (rfl : al = al), Bool.true_and] at hR
    by_cases h2 : ql = ll
    case neg =>
      have d2 : ((ql : Int) != (ll : Int)) = true := by rw [bne_iff_ne]; omega
      rw [show areS qs (ll : Int) = false by unfold areS; rw [← NQ.out, decide_eq_false (by omega)]; rfl] at hR
      obtain rfl : R = false := by rw [hR]; simp
      clear h2 hR
      go_enter Try.func43, Try.ntmps43
      go_wp2_with (go_at_call 70; with_reducible refine (CN.out _ hb.out).mono ?_; rintro e w2 ⟨rfl, hb2⟩; have HB2 := Lib.hid (hb.out.trans (hb2.mono hb.out.size)); have K2 := Lib.hid (blk_in hH0.out hb2); have J2 := Lib.hid (blk_in hH1.out hb2); obtain ⟨n0, n1⟩ := cells2 K2.out; obtain ⟨s0, s1, s2, s3⟩ := cells4s J2.out; have nl := lt_of K2.out; have sl := lt_of J2.out; clear hb2)
      go_ret
      exact ⟨rfl, HB2.out⟩
    by_cases h3 : rl = ll
    case neg =>
      have d3 : ((rl : Int) != (ll : Int)) = true := by rw [bne_iff_ne]; omega
      rw [show areS rs (ll : Int) = false by unfold areS; rw [← NR.out, decide_eq_false (by omega)]; rfl] at hR
      obtain rfl : R = false := by rw [hR]; simp
      subst h2
      clear h3 hR
      go_enter Try.func43, Try.ntmps43
      go_wp2_with (go_at_call 70; with_reducible refine (CN.out _ hb.out).mono ?_; rintro e w2 ⟨rfl, hb2⟩; have HB2 := Lib.hid (hb.out.trans (hb2.mono hb.out.size)); have K2 := Lib.hid (blk_in hH0.out hb2); have J2 := Lib.hid (blk_in hH1.out hb2); obtain ⟨n0, n1⟩ := cells2 K2.out; obtain ⟨s0, s1, s2, s3⟩ := cells4s J2.out; have nl := lt_of K2.out; have sl := lt_of J2.out; clear hb2)
      go_ret
      exact ⟨rfl, HB2.out⟩
    subst h2
    subst h3
    have CI0 := fun (W : World) => sin_any st 0 20000 W
    by_cases h4 : 0 ≤ st ∧ st ≤ 20000
    case neg =>
      have CI := Lib.hid (fun (W : World) => (show Calls Try.prog 87 #[.int .i64 st, .int .i64 0, .int .i64 20000] W fun e w' => e = .returned (.bool false) ∧ W = w' by have q := CI0 W; rw [show inB 0 20000 st = false from decide_eq_false h4] at q; exact q))
      rw [decide_eq_false h4] at hR
      obtain rfl : R = false := hR
      clear h4 CI0
      go_enter Try.func43, Try.ntmps43
      go_wp2_with (first | (go_at_call 87; with_reducible refine (CI.out _).mono ?_; rintro e w3 ⟨rfl, rfl⟩) | (go_at_call 70; with_reducible refine (CN.out _ hb.out).mono ?_; rintro e w2 ⟨rfl, hb2⟩; have HB2 := Lib.hid (hb.out.trans (hb2.mono hb.out.size)); have K2 := Lib.hid (blk_in hH0.out hb2); have J2 := Lib.hid (blk_in hH1.out hb2); obtain ⟨n0, n1⟩ := cells2 K2.out; obtain ⟨s0, s1, s2, s3⟩ := cells4s J2.out; have nl := lt_of K2.out; have sl := lt_of J2.out; clear hb2))
      go_ret
      exact ⟨rfl, HB2.out⟩
    have CI := Lib.hid (fun (W : World) => (show Calls Try.prog 87 #[.int .i64 st, .int .i64 0, .int .i64 20000] W fun e w' => e = .returned (.bool true) ∧ W = w' by have q := CI0 W; rw [show inB 0 20000 st = true from decide_eq_true h4] at q; exact q))
    rw [decide_eq_true h4, Bool.true_and] at hR
    have HRR := Lib.hid hR
    clear h4 CI0 hR
    go_enter Try.func43, Try.ntmps43
    go_wp2_with (first | (go_at_call 87; with_reducible refine (CI.out _).mono ?_; rintro e w3 ⟨rfl, rfl⟩) | (go_at_call 70; with_reducible refine (CN.out _ hb.out).mono ?_; rintro e w2 ⟨rfl, hb2⟩; have HB2 := Lib.hid (hb.out.trans (hb2.mono hb.out.size)); have K2 := Lib.hid (blk_in hH0.out hb2); have J2 := Lib.hid (blk_in hH1.out hb2); obtain ⟨n0, n1⟩ := cells2 K2.out; obtain ⟨s0, s1, s2, s3⟩ := cells4s J2.out; have nl := lt_of K2.out; have sl := lt_of J2.out; clear hb2))
    clear n0 n1 s0 s1 s2 s3 nl sl
    obtain ⟨w6, hw6⟩ : ∃ W, W = w2 := ⟨_, rfl⟩
    rw [← hw6] at HB2 K2 J2 ⊢
    clear hw6
    go_loopw [50] (fun i wr => ∃ k : Nat, k ≤ al ∧ i = .int .i64 k ∧ Hid (upTo (actP ps acs) k = true) ∧ Hid (Below w6.heap.size w6 wr)) (fun i _ => al - (intOf i).toNat)
    case atStart => exact ⟨0, Nat.zero_le _, rfl, Lib.hid (by simp [upTo]), Lib.hid (Below.refl _ _)⟩
    case round =>
      obtain ⟨k, hk, rfl, HU, HB⟩ := hrel
      by_cases hlt : k < al
      case pos =>
        obtain ⟨x, hx⟩ : ∃ x, ps[k]? = some x := ⟨_, List.getElem?_eq_getElem (by rw [← NP.out]; exact hlt)⟩
        obtain ⟨y, hy⟩ : ∃ y, acs[k]? = some y := ⟨_, List.getElem?_eq_getElem (by rw [← NA.out]; exact hlt)⟩
        have hbw := HB2.out.trans (HB.out.mono HB2.out.size)
        obtain ⟨gb, go, c, rfl, hgb, e0, e1, e2, es⟩ := (HP.out.below hbw).atb hx
        obtain ⟨ab, ao, d, rfl, hab, f0, f1, fs⟩ := (HA.out.below hbw).atb hy
        have HT := Lib.hid (show actP ps acs k = okA x y by unfold actP; rw [getD_at hx, getD_at hy])
        have GN := Lib.hid (blk_in K2.out HB.out)
        clear hx hy hbw
        obtain ⟨pi, po, pc⟩ := x
        obtain ⟨ai, ar⟩ := y
        simp only [] at e0 e1 e2 es f0 f1 fs
        obtain ⟨ua, uc, rfl⟩ := es.shape
        obtain ⟨va, vc, rfl⟩ := fs.shape
        have ES := Lib.hid es
        have FS := Lib.hid fs
        have CT := Lib.hid (fun (W : World) (hw : Below wr.heap.size wr W) => CA.out W k ⟨pi, po, pc⟩ ⟨ai, ar⟩ _ _ (ES.out.below hw) (FS.out.below hw))
        obtain ⟨ul, hul⟩ : ∃ q, q = pc.length := ⟨_, rfl⟩
        obtain ⟨vl, hvl⟩ : ∃ q, q = ar.length := ⟨_, rfl⟩
        rw [← hul] at e2 CT
        rw [← hvl] at f1 CT
        clear es fs hul hvl ES FS
        obtain ⟨n0, n1⟩ := cells2 GN.out; have nl := lt_of GN.out
        obtain ⟨T, hT⟩ : ∃ T, T = okA ⟨pi, po, pc⟩ ⟨ai, ar⟩ := ⟨_, rfl⟩
        rw [← hT] at HT CT
        clear hT
        go_upto_region 6 with fail
        obtain ⟨W, hW⟩ : ∃ W, W = wr.alloc (.cells #[.int .i64 ai, .slice va vl vc] 98) := ⟨_, rfl⟩
        have HBW := Lib.hid (show Below wr.heap.size wr W by rw [hW]; exact (Below.refl _ _).al _)
        have HX := Lib.hid (show W.heap[wr.heap.size]? = some (.cells #[.int .i64 ai, .slice va vl vc] 98) by rw [hW]; exact hp1 _ _)
        rw [← hW]
        clear hW n0 n1 nl f0 f1
        have GN3 := Lib.hid (blk_in GN.out HBW.out)
        obtain ⟨n0, n1⟩ := cells2 GN3.out
        have nl := lt_of GN3.out
        replace e0 := (HBW.out.cell (p := ⟨gb, go + k * 3, none⟩) hgb).trans e0
        replace e1 := (HBW.out.cell (p := ⟨gb, go + k * 3 + 1, none⟩) hgb).trans e1
        replace e2 := (HBW.out.cell (p := ⟨gb, go + k * 3 + 2, none⟩) hgb).trans e2
        replace hgb : gb < W.heap.size := Nat.lt_of_lt_of_le hgb HBW.out.size
        obtain ⟨x0, x1⟩ := cells2 HX.out
        have xl2 := lt_of HX.out
        cases T with
        | true =>
          go_region_held3 (fun w' => w'.cell? ⟨wr.heap.size, 0, none⟩ = some (.int .i64 ai) ∧ w'.cell? ⟨wr.heap.size, 1, none⟩ = some (.slice va vl vc) ∧ w'.cell? ⟨w.heap.size, 0, none⟩ = some (.slice (some ⟨gb, go, none⟩) al pcap) ∧ w'.cell? ⟨gb, go + k * 3, none⟩ = some (.int .i64 pi) ∧ w'.cell? ⟨gb, go + k * 3 + 1, none⟩ = some (.int .i64 po) ∧ w'.cell? ⟨gb, go + k * 3 + 2, none⟩ = some (.slice ua ul uc)) (go_keep) (first | (go_at_call 88; refine (CT.out _ (by first | with_reducible exact HBW.out | with_reducible exact HBW.out.drew)).mono ?_; rintro e w8 ⟨rfl, hb1⟩; have HC1 := Lib.hid (show Below W.heap.size W w8 by first | with_reducible exact hb1 | with_reducible exact cr_d hb1); have x0' := (HC1.out.cell (p := ⟨wr.heap.size, 0, none⟩) xl2).trans x0; have x1' := (HC1.out.cell (p := ⟨wr.heap.size, 1, none⟩) xl2).trans x1; have n0' := (HC1.out.cell (p := ⟨w.heap.size, 0, none⟩) nl).trans n0; have e0' := (HC1.out.cell (p := ⟨gb, go + k * 3, none⟩) hgb).trans e0; have e1' := (HC1.out.cell (p := ⟨gb, go + k * 3 + 1, none⟩) hgb).trans e1; have e2' := (HC1.out.cell (p := ⟨gb, go + k * 3 + 2, none⟩) hgb).trans e2; clear hb1))
          all_goals
            go_wp2_with fail
            go_roundw
            case rel => exact ⟨k + 1, by omega, by go_num, Lib.hid (upTo_step HU.out HT.out), Lib.hid (HB.out.trans ((HBW.out.trans (HC1.out.mono HBW.out.size)).mono HB.out.size))⟩
            case measure => simp [intOf]; omega
        | false =>
          go_region_held3 (fun w' => w'.cell? ⟨wr.heap.size, 0, none⟩ = some (.int .i64 ai) ∧ w'.cell? ⟨wr.heap.size, 1, none⟩ = some (.slice va vl vc) ∧ w'.cell? ⟨w.heap.size, 0, none⟩ = some (.slice (some ⟨gb, go, none⟩) al pcap) ∧ w'.cell? ⟨gb, go + k * 3, none⟩ = some (.int .i64 pi) ∧ w'.cell? ⟨gb, go + k * 3 + 1, none⟩ = some (.int .i64 po) ∧ w'.cell? ⟨gb, go + k * 3 + 2, none⟩ = some (.slice ua ul uc)) (go_keep) (first | (go_at_call 88; refine (CT.out _ (by first | with_reducible exact HBW.out | with_reducible exact HBW.out.drew)).mono ?_; rintro e w8 ⟨rfl, hb1⟩; have HC1 := Lib.hid (show Below W.heap.size W w8 by first | with_reducible exact hb1 | with_reducible exact cr_d hb1); have x0' := (HC1.out.cell (p := ⟨wr.heap.size, 0, none⟩) xl2).trans x0; have x1' := (HC1.out.cell (p := ⟨wr.heap.size, 1, none⟩) xl2).trans x1; have n0' := (HC1.out.cell (p := ⟨w.heap.size, 0, none⟩) nl).trans n0; have e0' := (HC1.out.cell (p := ⟨gb, go + k * 3, none⟩) hgb).trans e0; have e1' := (HC1.out.cell (p := ⟨gb, go + k * 3 + 1, none⟩) hgb).trans e1; have e2' := (HC1.out.cell (p := ⟨gb, go + k * 3 + 2, none⟩) hgb).trans e2; clear hb1))
          all_goals
            go_wp2_with fail
            go_ret
            exact ⟨ret_bool (HRR.out.trans (by rw [upTo_no hlt HT.out]; simp)), HB2.out.trans ((HB.out.trans ((HBW.out.trans (HC1.out.mono HBW.out.size)).mono HB.out.size)).mono HB2.out.size)⟩
      have HU1 := Lib.hid (show upTo (actP ps acs) al = true by have := HU.out; rwa [show k = al by omega] at this)
      have HR2 := Lib.hid (HRR.out.trans (by rw [HU1.out, Bool.true_and]))
      have HB7 := Lib.hid (HB2.out.trans (HB.out.mono HB2.out.size))
      have K7 := Lib.hid (blk_in K2.out HB.out)
      have J7 := Lib.hid (blk_in J2.out HB.out)
      obtain ⟨n0, n1⟩ := cells2 K7.out; obtain ⟨s0, s1, s2, s3⟩ := cells4s J7.out; have nl := lt_of K7.out; have sl := lt_of J7.out
      clear HU HB
      go_wp2_with fail
      clear n0 n1 s0 s1 s2 s3 nl sl hlt hk
      obtain ⟨w7, hw7⟩ : ∃ W, W = wr := ⟨_, rfl⟩
      rw [← hw7] at HB7 K7 J7 ⊢
      clear hw7
      go_loopw [67] (fun i wr => ∃ k : Nat, k ≤ rl ∧ i = .int .i64 k ∧ Hid ((qs.take k).all isS = true) ∧ Hid ((rs.take k).all isS = true) ∧ Hid (upTo (traP ⟨ps, ls⟩ ⟨acs, qs, rs, st⟩) k = true) ∧ Hid (Below w7.heap.size w7 wr)) (fun i _ => rl - (intOf i).toNat)
      case atStart => exact ⟨0, Nat.zero_le _, rfl, Lib.hid (by simp), Lib.hid (by simp), Lib.hid (by simp [upTo]), Lib.hid (Below.refl _ _)⟩
      case round =>
        obtain ⟨k, hk, rfl, HQA, HRA, HU, HB⟩ := hrel
        by_cases hlt : k < rl
        case neg =>
          have hke : k = rl := by omega
          have HF := Lib.hid (show R = true by
            rw [HR2.out]
            have a1 := HQA.out
            have a2 := HRA.out
            have a3 := HU.out
            rw [hke] at a1 a2 a3
            rw [List.take_of_length_le (by rw [← NQ.out]; exact Nat.le_refl _)] at a1
            rw [List.take_of_length_le (by rw [← NR.out]; exact Nat.le_refl _)] at a2
            rw [a3]; unfold areS; rw [a1, a2, ← NQ.out, ← NR.out]; simp)
          go_wp2_with fail
          go_ret
          exact ⟨ret_bool HF.out, HB7.out.trans (HB.out.mono HB7.out.size)⟩
        obtain ⟨x, hx⟩ : ∃ x, ls[k]? = some x := ⟨_, List.getElem?_eq_getElem (by rw [← NL.out]; exact hlt)⟩
        obtain ⟨y, hy⟩ : ∃ y, qs[k]? = some y := ⟨_, List.getElem?_eq_getElem (by rw [← NQ.out]; exact hlt)⟩
        obtain ⟨z, hz⟩ : ∃ z, rs[k]? = some z := ⟨_, List.getElem?_eq_getElem (by rw [← NR.out]; exact hlt)⟩
        have hbw := HB7.out.trans (HB.out.mono HB7.out.size)
        obtain ⟨lb, lo, c, rfl, hlb, e0, e1, e2, e3, e4, es⟩ := (HL.out.below hbw).atb hx
        obtain ⟨qb, qo, cq, rfl, hqb, f0, fs⟩ := (HQ.out.below hbw).atb hy
        obtain ⟨rb, ro, cr, rfl, hrb, g0, gs⟩ := (HR.out.below hbw).atb hz
        have HT := Lib.hid (show traP ⟨ps, ls⟩ ⟨acs, qs, rs, st⟩ k = trafB x y z by unfold traP; rw [getD_at hx, getD_at hy, getD_at hz])
        have FO := Lib.hid (frm_out HOK.out (List.mem_of_getElem? hx))
        have HY := Lib.hid hy
        have HZ := Lib.hid hz
        have GS := Lib.hid (blk_in J7.out HB.out)
        clear hx hy hz hbw
        obtain ⟨xf, xo, xt, xi, xk⟩ := x
        simp only [] at e0 e1 e2 e3 e4 es FO
        obtain ⟨ua, uc, rfl⟩ := es.shape
        obtain ⟨va, vc, rfl⟩ := fs.shape
        obtain ⟨xa, xc, rfl⟩ := gs.shape
        have HBW := Lib.hid ((Below.refl wr.heap.size wr).al (.cells #[.int .i64 xf, .int .i64 xo, .int .i64 xt, .int .i64 xi, .slice ua xk.length uc] 82))
        have CQ := Lib.hid (sstream_any _ y _ (fs.below HBW.out))
        have CR := Lib.hid (sstream_any _ z _ (gs.below HBW.out))
        have CB := Lib.hid (begins_any _ _ xk z _ (es.below HBW.out) (gs.below HBW.out))
        have CE := Lib.hid (sends5_any _ _ y z _ (fs.below HBW.out) (gs.below HBW.out))
        obtain ⟨ul, hul⟩ : ∃ q, q = xk.length := ⟨_, rfl⟩
        obtain ⟨vl, hvl⟩ : ∃ q, q = y.length := ⟨_, rfl⟩
        obtain ⟨xl, hxl⟩ : ∃ q, q = z.length := ⟨_, rfl⟩
        rw [← hul] at e4 HBW CQ CR CB CE
        rw [← hvl] at f0 CQ CE
        rw [← hxl] at g0 CR CB CE
        have UL := Lib.hid hul
        have VL := Lib.hid hvl
        have XL := Lib.hid hxl
        clear es fs gs hul hvl hxl
        obtain ⟨s0, s1, s2, s3⟩ := cells4s GS.out; have sl := lt_of GS.out
        have HBE := Lib.hid (HB7.out.trans ((HB.out.trans (HBW.out.mono HB.out.size)).mono HB7.out.size))
        cases h1 : isS y with
        | false =>
          rw [h1] at CQ
          have HF := Lib.hid (show R = false by rw [HR2.out]; unfold areS; rw [allS_no HY.out h1]; simp)
          go_wp2_with (go_at_call 89; with_reducible refine CQ.out.mono ?_; rintro e w8 ⟨rfl, rfl⟩)
          go_ret
          exact ⟨ret_bool HF.out, HBE.out⟩
        | true =>
          rw [h1] at CQ
          have Y1 := Lib.hid h1
          clear h1
          cases h2 : isS z with
          | false =>
            rw [h2] at CR
            have HF := Lib.hid (show R = false by rw [HR2.out]; unfold areS; rw [allS_no HZ.out h2]; simp)
            go_wp2_with (first | (go_at_call 89; with_reducible refine CQ.out.mono ?_; rintro e w8 ⟨rfl, rfl⟩) | (go_at_call 89; with_reducible refine CR.out.mono ?_; rintro e w8 ⟨rfl, rfl⟩))
            go_ret
            exact ⟨ret_bool HF.out, HBE.out⟩
          | true =>
            rw [h2] at CR
            have Z1 := Lib.hid h2
            clear h2
            cases h3 : begB xk z with
            | false =>
              rw [h3] at CB
              have HF := Lib.hid (show R = false by rw [HR2.out, upTo_no hlt (HT.out.trans (by unfold trafB prefB; rw [h3]; simp))]; simp)
              go_wp2_with (first | (go_at_call 89; with_reducible refine CQ.out.mono ?_; rintro e w8 ⟨rfl, rfl⟩) | (go_at_call 89; with_reducible refine CR.out.mono ?_; rintro e w8 ⟨rfl, rfl⟩) | (go_at_call 90; with_reducible refine CB.out.mono ?_; rintro e w8 ⟨rfl, rfl⟩))
              go_ret
              exact ⟨ret_bool HF.out, HBE.out⟩
            | true =>
              rw [h3] at CB
              have B1 := Lib.hid (show prefB xk z = true by unfold prefB; rw [FO.out.2.2.2, Z1.out, h3]; rfl)
              clear h3
              cases h4 : endB y z with
              | false =>
                rw [h4] at CE
                have HF := Lib.hid (show R = false by rw [HR2.out, upTo_no hlt (HT.out.trans (by unfold trafB; rw [h4]; simp))]; simp)
                go_wp2_with (first | (go_at_call 89; with_reducible refine CQ.out.mono ?_; rintro e w8 ⟨rfl, rfl⟩) | (go_at_call 89; with_reducible refine CR.out.mono ?_; rintro e w8 ⟨rfl, rfl⟩) | (go_at_call 90; with_reducible refine CB.out.mono ?_; rintro e w8 ⟨rfl, rfl⟩) | (go_at_call 91; with_reducible refine CE.out.mono ?_; rintro e w8 ⟨rfl, rfl⟩))
                go_ret
                exact ⟨ret_bool HF.out, HBE.out⟩
              | true =>
                rw [h4] at CE
                have E1 := Lib.hid h4
                clear h4
                have HT2 := Lib.hid (show traP ⟨ps, ls⟩ ⟨acs, qs, rs, st⟩ k = (if ((xf, xo) : End) = outE then decide (xl = ul) else (!(decide (((xt, xi) : End) = outE)) || decide (vl = xl))) by rw [HT.out]; unfold trafB; simp only []; rw [B1.out, E1.out, ← UL.out, ← VL.out, ← XL.out]; rfl)
                by_cases k1 : ((xf, xo) : End) = outE
                · have q1 : (xf == -1) = true := by rw [beq_iff_eq]; exact FO.out.1.2 k1
                  have q2 : (xt == -1) = false := by rw [beq_eq_false_iff_ne]; exact fun e => FO.out.2.2.1 ⟨k1, FO.out.2.1.1 e⟩
                  by_cases k2 : xl = ul
                  · have q3 : ((xl : Int) != (ul : Int)) = false := by simp; omega
                    have HT3 := Lib.hid (show traP ⟨ps, ls⟩ ⟨acs, qs, rs, st⟩ k = true by rw [HT2.out, if_pos k1, decide_eq_true k2])
                    clear k1 k2
                    go_wp2_with (first | (go_at_call 89; with_reducible refine CQ.out.mono ?_; rintro e w8 ⟨rfl, rfl⟩) | (go_at_call 89; with_reducible refine CR.out.mono ?_; rintro e w8 ⟨rfl, rfl⟩) | (go_at_call 90; with_reducible refine CB.out.mono ?_; rintro e w8 ⟨rfl, rfl⟩) | (go_at_call 91; with_reducible refine CE.out.mono ?_; rintro e w8 ⟨rfl, rfl⟩))
                    go_roundw
                    case rel => exact ⟨k + 1, by omega, by go_num, Lib.hid (allS_step HY.out HQA.out Y1.out), Lib.hid (allS_step HZ.out HRA.out Z1.out), Lib.hid (upTo_step HU.out HT3.out), Lib.hid (HB.out.trans (HBW.out.mono HB.out.size))⟩
                    case measure => simp [intOf]; omega
                  · have q3 : ((xl : Int) != (ul : Int)) = true := by rw [bne_iff_ne]; omega
                    have HF := Lib.hid (show R = false by rw [HR2.out, upTo_no hlt (HT2.out.trans (by rw [if_pos k1, decide_eq_false k2]))]; simp)
                    clear k1 k2
                    go_wp2_with (first | (go_at_call 89; with_reducible refine CQ.out.mono ?_; rintro e w8 ⟨rfl, rfl⟩) | (go_at_call 89; with_reducible refine CR.out.mono ?_; rintro e w8 ⟨rfl, rfl⟩) | (go_at_call 90; with_reducible refine CB.out.mono ?_; rintro e w8 ⟨rfl, rfl⟩) | (go_at_call 91; with_reducible refine CE.out.mono ?_; rintro e w8 ⟨rfl, rfl⟩))
                    go_ret
                    exact ⟨ret_bool HF.out, HBE.out⟩
                · have q1 : (xf == -1) = false := by rw [beq_eq_false_iff_ne]; exact fun e => k1 (FO.out.1.1 e)
                  by_cases k2 : ((xt, xi) : End) = outE
                  · have q2 : (xt == -1) = true := by rw [beq_iff_eq]; exact FO.out.2.1.2 k2
                    by_cases k3 : vl = xl
                    · have q3 : ((xl : Int) != (vl : Int)) = false := by simp; omega
                      have HT3 := Lib.hid (show traP ⟨ps, ls⟩ ⟨acs, qs, rs, st⟩ k = true by rw [HT2.out, if_neg k1, decide_eq_true k3]; simp)
                      clear k1 k2 k3
                      go_wp2_with (first | (go_at_call 89; with_reducible refine CQ.out.mono ?_; rintro e w8 ⟨rfl, rfl⟩) | (go_at_call 89; with_reducible refine CR.out.mono ?_; rintro e w8 ⟨rfl, rfl⟩) | (go_at_call 90; with_reducible refine CB.out.mono ?_; rintro e w8 ⟨rfl, rfl⟩) | (go_at_call 91; with_reducible refine CE.out.mono ?_; rintro e w8 ⟨rfl, rfl⟩))
                      go_roundw
                      case rel => exact ⟨k + 1, by omega, by go_num, Lib.hid (allS_step HY.out HQA.out Y1.out), Lib.hid (allS_step HZ.out HRA.out Z1.out), Lib.hid (upTo_step HU.out HT3.out), Lib.hid (HB.out.trans (HBW.out.mono HB.out.size))⟩
                      case measure => simp [intOf]; omega
                    · have q3 : ((xl : Int) != (vl : Int)) = true := by rw [bne_iff_ne]; omega
                      have HF := Lib.hid (show R = false by rw [HR2.out, upTo_no hlt (HT2.out.trans (by rw [if_neg k1, decide_eq_true k2, decide_eq_false k3]; rfl))]; simp)
                      clear k1 k2 k3
                      go_wp2_with (first | (go_at_call 89; with_reducible refine CQ.out.mono ?_; rintro e w8 ⟨rfl, rfl⟩) | (go_at_call 89; with_reducible refine CR.out.mono ?_; rintro e w8 ⟨rfl, rfl⟩) | (go_at_call 90; with_reducible refine CB.out.mono ?_; rintro e w8 ⟨rfl, rfl⟩) | (go_at_call 91; with_reducible refine CE.out.mono ?_; rintro e w8 ⟨rfl, rfl⟩))
                      go_ret
                      exact ⟨ret_bool HF.out, HBE.out⟩
                  · have q2 : (xt == -1) = false := by rw [beq_eq_false_iff_ne]; exact fun e => k2 (FO.out.2.1.1 e)
                    have HT3 := Lib.hid (show traP ⟨ps, ls⟩ ⟨acs, qs, rs, st⟩ k = true by rw [HT2.out, if_neg k1, decide_eq_false k2]; rfl)
                    clear k1 k2
                    go_wp2_with (first | (go_at_call 89; with_reducible refine CQ.out.mono ?_; rintro e w8 ⟨rfl, rfl⟩) | (go_at_call 89; with_reducible refine CR.out.mono ?_; rintro e w8 ⟨rfl, rfl⟩) | (go_at_call 90; with_reducible refine CB.out.mono ?_; rintro e w8 ⟨rfl, rfl⟩) | (go_at_call 91; with_reducible refine CE.out.mono ?_; rintro e w8 ⟨rfl, rfl⟩))
                    go_roundw
                    case rel => exact ⟨k + 1, by omega, by go_num, Lib.hid (allS_step HY.out HQA.out Y1.out), Lib.hid (allS_step HZ.out HRA.out Z1.out), Lib.hid (upTo_step HU.out HT3.out), Lib.hid (HB.out.trans (HBW.out.mono HB.out.size))⟩
                    case measure => simp [intOf]; omega

theorem ownH_lo {lo lo' hi : Nat} {w : World} {v : Value} {xs : List Int} (hl : lo' ≤ lo) (h : OwnH lo hi w v xs) : OwnH lo' hi w v xs := ⟨h.1.mono hl, h.2⟩
theorem rowsH_lo {lo lo' hi : Nat} {w : World} {v : Value} {xs : List (List Int)} (hl : lo' ≤ lo) (h : RowsH lo hi w v xs) : RowsH lo' hi w v xs := OutH.mono h hl (Nat.le_refl _)
theorem iisst_w (v : Value) (n : Net) (u : Value) (s : Stt) (w : World) (hv : NetV w v n) (hu : StV w u s) :
    Calls Try.prog 45 #[v, u] w fun e w' => e = .returned (.bool (isStateR0 n s)) ∧ Below w.heap.size w w' := iisst_any v u n s w hv hu
theorem sisst_w (v : Value) (n : Net) (u : Value) (s : Stt) (w : World) (hv : NetV w v n) (hu : StV w u s) :
    Calls Try.prog 43 #[v, u] w fun e w' => e = .returned (.bool (isStateR0 n s)) ∧ Below w.heap.size w w' := sisst_any v u n s w hv hu
end Go.Proofs.Ytjphamgkigekkaa
