/-
  The state at first: StartState of the program. No statement of the seat is proved here.
-/
import Derived.Test.YtmfagmfclehdbaaStart
namespace Go.Proofs.Ytmfagmfclehdbaa
open Go.RowKit

set_option maxRecDepth 100000 in
set_option maxHeartbeats 16000000 in
theorem istart_any (v : Value) (n : Net) (w : World) (h : NetV w v n) :
    Calls Try.prog 14 #[v] w fun e w' => ∃ r, e = .returned r ∧ StR w.heap.size w'.heap.size w' r (startStateR0 n) ∧ Below w.heap.size w w' := by
  have CN := Lib.hid (fun (W : World) (hw : Below w.heap.size w W) => iisnet_any v n W (h.below hw))
  obtain ⟨pv, lv, rfl, hp, hl⟩ := h
  have LP := hp.len
  have LL := hl.len
  have HP := Lib.hid hp
  have HL := Lib.hid hl
  obtain ⟨la, lcap, rfl⟩ := hl.shape
  obtain ⟨pa, pcap, rfl⟩ := hp.shape
  obtain ⟨m, hm⟩ : ∃ m, m = n.progs.length := ⟨_, rfl⟩
  obtain ⟨ll, hll⟩ : ∃ m, m = n.links.length := ⟨_, rfl⟩
  rw [← hm, ← hll] at CN ⊢
  rw [← hm] at HP LP
  rw [← hll] at HL LL
  have NP := Lib.hid hm
  have NL := Lib.hid hll
  clear hp hl hm hll
  obtain ⟨R, hR⟩ : ∃ R, R = startStateR0 n := ⟨_, rfl⟩
  have HRR := Lib.hid hR
  rw [← hR]
  clear hR
  have hb := Lib.hid (((Below.refl w.heap.size w).al (.cells #[.slice pa m pcap, .slice la ll lcap] 35)).al (.cells #[.slice none 0 0, .slice none 0 0, .slice none 0 0, .int .i64 0] 30))
  have hH := Lib.hid (hp21 w (.cells #[.slice pa m pcap, .slice la ll lcap] 35) (.cells #[.slice none 0 0, .slice none 0 0, .slice none 0 0, .int .i64 0] 30))
  have hH1 := Lib.hid (hp2 w (.cells #[.slice pa m pcap, .slice la ll lcap] 35) (.cells #[.slice none 0 0, .slice none 0 0, .slice none 0 0, .int .i64 0] 30))
  obtain ⟨i0, hi, hz0, hz1, hz2⟩ := infoAc_parts
  obtain ⟨j0, hj, hy0, hy1, hy2⟩ := infoS_parts
  cases ho : okN n with
  | false =>
    rw [ho] at CN
    have HE := Lib.hid (HRR.out.trans (start_no ho))
    clear ho
    obtain rfl := HE.out
    go_enter Try.func14, Try.ntmps14
    go_wp2_with (go_at_call 57; with_reducible refine (CN.out _ hb.out).mono ?_; rintro e w2 ⟨rfl, hb1⟩; have HB2 := Lib.hid (hb.out.trans (hb1.mono hb.out.size)); have G2 := Lib.hid (blk_in hH.out hb1); have J2 := Lib.hid (blk_in hH1.out hb1); obtain ⟨k0, k1⟩ := cells2 G2.out; have gl := lt_of G2.out; obtain ⟨r0, r1, r2, r3⟩ := cells4s J2.out; have rl := lt_of J2.out; have rz0 := fr_of J2.out 0; have rz1 := fr_of J2.out 1; have rz2 := fr_of J2.out 2; have rz3 := fr_of J2.out 3; clear hb1)
    refine bodyPost_ret (v := .agg #[.slice none 0 0, .slice none 0 0, .slice none 0 0, .int .i64 0]) (by simp [results, Try.results14, go_sem, r0, r1, r2, r3]) rfl ⟨_, rfl, stR_nil _ _ _ _, ?_⟩
    first
    | exact HB2.out
    | exact (((HB2.out.setCell (by simp) _).setCell (by simp) _).setCell (by simp) _).setCell (by simp) _
  | true =>
    rw [ho] at CN
    have HOK := Lib.hid ho
    have HE := Lib.hid (HRR.out.trans (start_yes ho))
    have hm12 : m ≤ 12 := by rw [NP.out]; exact (okN_len ho).1
    have hll30 : ll ≤ 30 := by rw [NL.out]; exact (okN_len ho).2.1
    clear ho
    obtain ⟨XA, hXA⟩ : ∃ X, X = n.progs.map newActorR0 := ⟨_, rfl⟩
    rw [← hXA] at HE
    have HXA := Lib.hid hXA
    clear hXA
    have HTL := Lib.hid (show (toksL n).length = ll by unfold toksL; rw [List.length_map, NL.out])
    have HXL := Lib.hid (show XA.length = m by rw [HXA.out, NP.out, List.length_map])
    go_enter Try.func14, Try.ntmps14
    go_wp2_with (go_at_call 57; with_reducible refine (CN.out _ hb.out).mono ?_; rintro e w2 ⟨rfl, hb1⟩; have HB2 := Lib.hid (hb.out.trans (hb1.mono hb.out.size)); have G2 := Lib.hid (blk_in hH.out hb1); have J2 := Lib.hid (blk_in hH1.out hb1); obtain ⟨k0, k1⟩ := cells2 G2.out; have gl := lt_of G2.out; obtain ⟨r0, r1, r2, r3⟩ := cells4s J2.out; have rl := lt_of J2.out; have rz0 := fr_of J2.out 0; have rz1 := fr_of J2.out 1; have rz2 := fr_of J2.out 2; have rz3 := fr_of J2.out 3; clear hb1)
    clear k0 k1 gl r0 r1 r2 r3 rl rz0 rz1 rz2 rz3
    generalize hW : w2.alloc (.cells #[.slice none 0 0, .slice none 0 0, .slice none 0 0, .int .i64 0] 30) = w3
    have HC3 := Lib.hid (show Below w2.heap.size w2 w3 by rw [← hW]; exact (Below.refl _ _).al _)
    obtain ⟨B, hB⟩ : ∃ B, B = w2.heap.size := ⟨_, rfl⟩
    have HS3 := Lib.hid (show w3.heap[B]? = some (.cells #[.slice none 0 0, .slice none 0 0, .slice none 0 0, .int .i64 0] 30) by rw [← hW, hB]; exact hp1 _ _)
    rw [← hB]
    have HBB := Lib.hid (show w2.heap.size ≤ B by omega)
    clear hW hB
    have HB3 := Lib.hid (HB2.out.trans (HC3.out.mono HB2.out.size))
    have G3 := Lib.hid (blk_in G2.out HC3.out)
    have J3 := Lib.hid (blk_in J2.out HC3.out)
    have HBL := Lib.hid (lt_of HS3.out)
    have HB0 := Lib.hid (show w.heap.size + 1 < B by have := lt_of J2.out; have := HBB.out; omega)
    go_loopw [15] (fun i wr => ∃ (k : Nat) (oa : Option Addr) (oc : Nat), k ≤ m ∧ i = .int .i64 k ∧ Hid (wr.heap[B]? = some (.cells #[.slice oa k oc, .slice none 0 0, .slice none 0 0, .int .i64 0] 30)) ∧ Hid (GrowA w3.heap.size k wr (.slice oa k oc) XA) ∧ Hid (Out B (B + 1) w3 wr)) (fun i _ => m - (intOf i).toNat)
    case atStart => exact ⟨0, none, 0, Nat.zero_le _, rfl, HS3, Lib.hid (GrowA.nil _ _ _), Lib.hid (Out.refl _ _ _)⟩
    case round =>
      obtain ⟨k, oa, oc, hk, rfl, HS, HG, HO⟩ := hrel
      have HBW := Lib.hid (HO.out.below HB3.out HB3.out.size (by have := HB0.out; omega))
      by_cases hlt : k < m
      case pos =>
        obtain ⟨x, hx⟩ : ∃ x, n.progs[k]? = some x := ⟨_, List.getElem?_eq_getElem (by rw [← NP.out]; exact hlt)⟩
        obtain ⟨gb, go, pcv, rfl, hgb, e0, e1, e2, es⟩ := (HP.out.below HBW.out).atb hx
        have HX := Lib.hid (show XA[k]? = some (newActorR0 x) by rw [HXA.out, List.getElem?_map, hx]; rfl)
        clear hx
        have ES := Lib.hid es
        obtain ⟨pi, po, pc⟩ := x
        simp only [] at e0 e1 e2 ES
        obtain ⟨ua, uc, rfl⟩ := es.shape
        have CA0 := fun (W : World) (hw : Below wr.heap.size wr W) => inew_any (.agg #[.int .i64 pi, .int .i64 po, .slice ua pc.length uc]) ⟨pi, po, pc⟩ W ⟨_, rfl, ES.out.below hw⟩
        obtain ⟨ax, hax⟩ : ∃ a, a = newActorR0 ⟨pi, po, pc⟩ := ⟨_, rfl⟩
        rw [← hax] at HX CA0
        clear hax
        obtain ⟨apc, ars⟩ := ax
        obtain ⟨ul, hul⟩ : ∃ q, q = pc.length := ⟨_, rfl⟩
        rw [← hul] at e2 CA0
        obtain ⟨al, hal⟩ : ∃ q, q = ars.length := ⟨_, rfl⟩
        have HAL := Lib.hid hal
        clear hul es hal ES
        obtain ⟨us, lus, ltk, hU1, hU2⟩ := HG.out
        have HU0 := Lib.hid hU1
        have HU2 := Lib.hid hU2
        have HUB := Lib.hid (show ∀ u q, u ∈ us → u.ownBlock = some q → q < wr.heap.size from fun u q hu he => fam_hi hU2 u hu q he)
        have HNE := Lib.hid (show some B ≠ (Value.slice oa k oc).ownBlock from fun e => by have := (World.ownsRow.lt HU0.out B e.symm).1; have := HBL.out; omega)
        clear hU1 hU2
        have hz1w : w3.heap.size ≤ wr.heap.size := HO.out.size
        have B0 := Lib.hid HS.out
        go_upto_region 7 with fail
        generalize hW : wr.alloc (.cells #[.int .i64 pi, .int .i64 po, .slice ua ul uc] 65) = W1
        have HC1 := Lib.hid (show Below wr.heap.size wr W1 by rw [← hW]; exact (Below.refl _ _).al _)
        obtain ⟨p0, p1, p2⟩ := cells3 (show W1.heap[wr.heap.size]? = _ by rw [← hW]; exact hp1 _ _)
        have pl := lt_of (show W1.heap[wr.heap.size]? = _ by rw [← hW]; exact hp1 _ _)
        clear hW
        have B1 := Lib.hid (blk_in HS.out HC1.out)
        have HU1 := Lib.hid (row_below HU0.out HC1.out)
        obtain ⟨b0, b1, b2, b3⟩ := cells4s B1.out
        have bl := lt_of B1.out
        have bz := fr_of B1.out 0
        have hz1' : w3.heap.size ≤ W1.heap.size := Nat.le_trans hz1w HC1.out.size
        have CA := Lib.hid (fun (W : World) (hw : Below W1.heap.size W1 W) => (show Calls Try.prog 47 #[.agg #[.int .i64 pi, .int .i64 po, .slice ua ul uc]] W fun e w' => ∃ c, e = .returned (.agg #[.int .i64 apc, c]) ∧ Own W.heap.size w' c ars ∧ Below W.heap.size W w' from (CA0 W (HC1.out.trans (hw.mono HC1.out.size))).mono fun e w' ⟨v', he, ⟨c, hv, ho⟩, hb⟩ => ⟨c, by rw [he, hv], ho, hb⟩))
        clear CA0
        refine wp_open' ?_
        intro K9 hK9
        go_cut [15] from 15 to 26 (fun i wz => ∃ (oa' : Option Addr) (oc' : Nat), i = .int .i64 k ∧ Hid (wz.heap[B]? = some (.cells #[.slice oa' (k + 1) oc', .slice none 0 0, .slice none 0 0, .int .i64 0] 30)) ∧ Hid (GrowA w3.heap.size (k + 1) wz (.slice oa' (k + 1) oc') XA) ∧ Hid (Out B (B + 1) w3 wz))
        case first =>
          go_region_law (first | (refine Go.step_append_lies _ rfl (.tmp 20) (.tmp 23) 27 rfl w3.heap.size 74 i0 (.agg #[.int .i64 0, .slice none 0 0]) 2 32 Try.underlying27 hi hz0 hz1 hz2 rfl (by decide) (.slice oa k oc) k (cellsA (XA.take k) us) rfl (World.ownsRow.alloc (row_below HU1.out hs5.out) _) ⟨W5.heap.size, 0, none⟩ 1 1 [.int .i64 apc, .slice xa al xc] rfl rfl (lit_cells W5 #[.int .i64 apc, .slice xa al xc] 74) (by intro u hu; simp at hu; rcases hu with rfl | rfl <;> rfl) (by omega) (by unfold maxLen; omega) (by omega) (by have := hz5; simp; omega) (W5.heap.size + 1) (by simp) ?_; intro g gc w6 hown hgrow hor hglt; have BB := grow_box B5.out hgrow HNE.out; obtain ⟨d0, d1, d2, d3⟩ := cells4s BB; have dz := fr_of BB 0; have dl := lt_of BB; have HOW := Lib.hid hown; have HGR := Lib.hid hgrow; have HB6 := Lib.hid BB; clear hown hgrow hor hglt BB) | (go_simp; go_at_call 47; refine (CA.out _ (by first | with_reducible exact Below.refl _ _ | with_reducible exact (Below.refl _ _).drew)).mono ?_; rintro e W5 ⟨c5, rfl, o5, hb5⟩; have hs5 := Lib.hid (show Below W1.heap.size W1 W5 by first | with_reducible exact hb5 | with_reducible exact cr_d hb5); have O5 := Lib.hid (Own.mono (lo' := W1.heap.size) o5 (by first | exact Nat.le_refl _ | simp)); have hz5 : w3.heap.size ≤ W5.heap.size := Nat.le_trans hz1' hs5.out.size; have B5 := Lib.hid (blk_in B1.out hs5.out); obtain ⟨y0, y1, y2, y3⟩ := cells4s B5.out; have yz := fr_of B5.out 0; have yl := lt_of B5.out; obtain ⟨xa, xc, hx5⟩ := O5.out.sl.shape; rw [← HAL.out] at hx5; subst hx5; clear o5 hb5))
          all_goals (
            go_wp2_with fail
            go_meet
            case rel =>
              refine ⟨some ⟨g, 0, none⟩, gc, rfl, Lib.hid (set4_0 HB6.out _), Lib.hid ?_, Lib.hid ?_⟩
              · have F5 := HU2.out.below (HC1.out.trans (hs5.out.mono HC1.out.size))
                have S := GrowA.step (a := ⟨apc, ars⟩) (w3 := W5.alloc (.cells #[.int .i64 apc, .slice xa al xc] 74)) lus (World.ownsRow.alloc (row_below HU1.out hs5.out) _) (F5.below ((Below.refl _ _).al _)) (O5.out.below ((Below.refl _ _).al _)) (fun u q hu he => Nat.lt_of_lt_of_le (HUB.out u q hu he) HC1.out.size) hz1' HX.out HOW.out HGR.out
                exact S.out ((Out.refl B (B + 1) w6).setC (p := ⟨B, 0, none⟩) (Nat.le_refl _) (Nat.lt_succ_self _) _) HBL.out
              · exact ((((HO.out.belowHi HC1.out).belowHi hs5.out).al _).grownHi HGR.out (fun q e => (World.ownsRow.lt HU1.out q e).1)).setC (p := ⟨B, 0, none⟩) (Nat.le_refl _) (Nat.lt_succ_self _) _)
        case rest =>
          obtain ⟨oa', oc', rfl, HS', HG', HO'⟩ := hcut
          refine hK9 _ _ ?_
          go_wp2_with fail
          go_roundw
          case rel => exact ⟨k + 1, oa', oc', by omega, by go_num, HS', HG', HO'⟩
          case measure => simp [intOf]; omega
      obtain rfl : m = k := by omega
      have GR := Lib.hid (HO.out.blk G3.out (.inl (by have := HB0.out; omega)))
      have JR := Lib.hid (HO.out.blk J3.out (.inl HB0.out))
      obtain ⟨w5, hw5⟩ : ∃ W, W = wr := ⟨_, rfl⟩
      subst hw5
      have HAC := Lib.hid (HG.out.acH HXL.out)
      have HS5 := Lib.hid HS.out
      have HB5W := Lib.hid HBW.out
      have HB5L := Lib.hid (lt_of HS.out)
      have HO35 := Lib.hid HO.out
      have HL5W := Lib.hid (HL.out.below HBW.out)
      clear HS HG HO HBW
      obtain ⟨k0, k1⟩ := cells2 GR.out
      have gl := lt_of GR.out
      go_wp2_with fail
      clear k0 k1 gl
      go_loopw [30] (fun i wr => ∃ (k : Nat) (qa : Option Addr) (qc : Nat) (ra : Option Addr) (rc : Nat), k ≤ ll ∧ i = .int .i64 k ∧ Hid (wr.heap[B]? = some (.cells #[.slice oa m oc, .slice qa k qc, .slice ra k rc, .int .i64 0] 30)) ∧ Hid (GrowQ w5.heap.size k k wr (.slice qa k qc) (.slice ra k rc) (toksL n)) ∧ Hid (Out B (B + 1) w5 wr)) (fun i _ => ll - (intOf i).toNat)
      case atStart => exact ⟨0, none, 0, none, 0, Nat.zero_le _, rfl, HS5, Lib.hid (GrowQ.nil _ _ _), Lib.hid (Out.refl _ _ _)⟩
      case round =>
      obtain ⟨k, qa, qc, ra, rc, hk, rfl, HS, HG, HO⟩ := hrel
      have HBW := Lib.hid (HO.out.below HB5W.out HB5W.out.size (by have := HB0.out; omega))
      by_cases hlt : k < ll
      case pos =>
        obtain ⟨x, hx⟩ : ∃ x, n.links[k]? = some x := ⟨_, List.getElem?_eq_getElem (by rw [← NL.out]; exact hlt)⟩
        obtain ⟨lb, lo, tv, rfl, hlb0, f0, f1, f2, f3, f4, es⟩ := HL.out.atb hx
        have e0 := (HBW.out.cell (p := ⟨lb, lo + k * 5, none⟩) hlb0).trans f0
        have e1 := (HBW.out.cell (p := ⟨lb, lo + k * 5 + 1, none⟩) hlb0).trans f1
        have e2 := (HBW.out.cell (p := ⟨lb, lo + k * 5 + 2, none⟩) hlb0).trans f2
        have e3 := (HBW.out.cell (p := ⟨lb, lo + k * 5 + 3, none⟩) hlb0).trans f3
        have e4 := (HBW.out.cell (p := ⟨lb, lo + k * 5 + 4, none⟩) hlb0).trans f4
        have hlb : lb < wr.heap.size := Nat.lt_of_lt_of_le hlb0 HBW.out.size
        clear f0 f1 f2 f3 f4 hlb0
        have HRW := Lib.hid (show (toksL n)[k]? = some x.tok by unfold toksL; rw [List.getElem?_map, hx]; rfl)
        have HT4 := Lib.hid (isS_len (tok_isS HOK.out (List.mem_of_getElem? hx)))
        clear hx
        have TS := Lib.hid es
        obtain ⟨xf, xo, xt, xi, tok⟩ := x
        simp only [] at e0 e1 e2 e3 e4 TS HRW HT4
        obtain ⟨ta, tc, rfl⟩ := es.shape
        obtain ⟨tl, htl⟩ : ∃ q, q = tok.length := ⟨_, rfl⟩
        rw [← htl] at e4 TS
        have HTLN := Lib.hid htl
        clear htl es
        have hz1w : w5.heap.size ≤ wr.heap.size := HO.out.size
        go_upto_region 12 with fail
        generalize hW : wr.alloc (.cells #[.int .i64 xf, .int .i64 xo, .int .i64 xt, .int .i64 xi, .slice ta tl tc] 86) = W1
        have HC1 := Lib.hid (show Below wr.heap.size wr W1 by rw [← hW]; exact (Below.refl _ _).al _)
        have LX1 := Lib.hid (show W1.heap[wr.heap.size]? = some (.cells #[.int .i64 xf, .int .i64 xo, .int .i64 xt, .int .i64 xi, .slice ta tl tc] 86) by rw [← hW]; exact hp1 _ _)
        clear hW
        have HFRQ := Lib.hid (show (∀ q, (Value.slice qa k qc).ownBlock = some q → q < wr.heap.size) ∧ (∀ q, (Value.slice ra k rc).ownBlock = some q → q < wr.heap.size) from by
          obtain ⟨us, vs, _, _, _, _, h1, h2, _⟩ := HG.out
          exact ⟨fun q e => (World.ownsRow.lt h1 q e).2, fun q e => (World.ownsRow.lt h2 q e).2⟩)
        obtain ⟨lbx, hlbx⟩ : ∃ z, z = wr.heap.size := ⟨_, rfl⟩
        have HFRQ1 := Lib.hid (show ∀ q, (Value.slice qa k qc).ownBlock = some q → q ≠ lbx from fun q e => by have := HFRQ.out.1 q e; omega)
        have HFRQ2 := Lib.hid (show ∀ q, (Value.slice ra k rc).ownBlock = some q → q ≠ lbx from fun q e => by have := HFRQ.out.2 q e; omega)
        have HLBN := Lib.hid (show lbx ≠ B by have := HB5L.out; omega)
        rw [← hlbx] at LX1 ⊢
        clear hlbx HFRQ
        have hzV1 : w5.heap.size ≤ W1.heap.size := Nat.le_trans hz1w HC1.out.size
        have BX1 := Lib.hid (blk_in HS.out HC1.out)
        have GQ1 := Lib.hid (HG.out.swap.below HC1.out)
        have HO1 := Lib.hid (HO.out.belowHi HC1.out)
        have TS1 := Lib.hid (TS.out.below (HBW.out.trans (HC1.out.mono HBW.out.size)))
        obtain ⟨us1, vs1, lus1, lvs1, ltk1, _, hU1, hV1, hAP, hF1⟩ := GQ1.out
        have HU1 := Lib.hid hU1
        have HV1 := Lib.hid hV1
        have HAP1 := Lib.hid hAP
        have HF1 := Lib.hid hF1
        have HUB1 := Lib.hid (fam_hi hF1)
        have HNE1 := Lib.hid (show some B ≠ (.slice qa k qc : Value).ownBlock from fun e => by have := (World.ownsRow.lt hV1 B e.symm).1; have := HB5L.out; omega)
        have HNL1 := Lib.hid (show some lbx ≠ (.slice qa k qc : Value).ownBlock from fun e => HFRQ1.out lbx e.symm rfl)
        clear hU1 hV1 hAP hF1
        obtain ⟨b0, b1, b2, b3⟩ := cells4s BX1.out
        have bl := lt_of BX1.out
        have bz := fr_of BX1.out 1
        obtain ⟨p0, p1, p2, p3, p4⟩ := cells5 LX1.out
        have pl := lt_of LX1.out
        have CC1 := Lib.hid (fun (W' : World) (hw : Below W1.heap.size W1 W') => copyOf_any (.slice ta tl tc) tok W' (TS1.out.below hw) (by have := HT4.out; omega))
        refine wp_open' ?_
        intro K1 hK1
        go_cut [30] from 30 to 50 (fun i wz => ∃ (qa' : Option Addr) (qc' : Nat), i = .int .i64 k ∧ Hid (wz.heap[B]? = some (.cells #[.slice oa m oc, .slice qa' (k + 1) qc', .slice ra k rc, .int .i64 0] 30)) ∧ Hid (GrowQ w5.heap.size (k + 1) k wz (.slice qa' (k + 1) qc') (.slice ra k rc) (toksL n)) ∧ Hid (wz.heap[lbx]? = some (.cells #[.int .i64 xf, .int .i64 xo, .int .i64 xt, .int .i64 xi, .slice ta tl tc] 86)) ∧ Hid (Out B (B + 1) w5 wz) ∧ Hid (∀ q, (.slice ra k rc : Value).ownBlock = some q → q ≠ lbx))
        case first =>
          go_region_law (first | (refine Go.step_append_lies _ rfl (.tmp 35) (.tmp 39) 28 rfl w5.heap.size 42 j0 (.slice none 0 0) 1 24 Try.underlying28 hj hy0 hy1 hy2 rfl (by decide) (.slice qa k qc) k vs1 rfl (World.ownsRow.alloc (row_below HV1.out hs5.out) _) ⟨V5.heap.size, 0, none⟩ 1 1 [.slice xa tl xc] rfl rfl (lit_cells V5 #[.slice xa tl xc] 42) (by intro u hu; simp at hu; subst hu; rfl) (by omega) (by unfold maxLen; omega) (by omega) (by have := hz5; simp; omega) (V5.heap.size + 1) (by simp) ?_; intro g gc w6 hown hgrow hor hglt; have BB := grow_box B5.out hgrow HNE1.out; have LL6 := grow_box L5.out hgrow HNL1.out; obtain ⟨d0, d1, d2, d3⟩ := cells4s BB; have dz := fr_of BB 1; have dl := lt_of BB; have HOW := Lib.hid hown; have HGR := Lib.hid hgrow; have HOR := Lib.hid hor; have HB6 := Lib.hid BB; have HL6 := Lib.hid LL6; clear hown hgrow hor hglt BB LL6) | (go_simp; go_at_call 58; refine (CC1.out _ (by first | with_reducible exact Below.refl _ _ | with_reducible exact (Below.refl _ _).drew)).mono ?_; rintro e V5 ⟨c5, rfl, o5, hb5⟩; have hs5 := Lib.hid (show Below W1.heap.size W1 V5 by first | with_reducible exact hb5 | with_reducible exact cr_d hb5); have O5 := Lib.hid (Own.mono (lo' := W1.heap.size) o5 (by first | exact Nat.le_refl _ | simp)); have hz5 : w5.heap.size ≤ V5.heap.size := Nat.le_trans hzV1 hs5.out.size; have B5 := Lib.hid (blk_in BX1.out hs5.out); have L5 := Lib.hid (blk_in LX1.out hs5.out); obtain ⟨y0, y1, y2, y3⟩ := cells4s B5.out; have yz := fr_of B5.out 1; have yl := lt_of B5.out; obtain ⟨xa, xc, hx5⟩ := O5.out.sl.shape; rw [← HTLN.out] at hx5; subst hx5; clear o5 hb5))
          all_goals (
            go_wp2_with fail
            go_meet
            case rel =>
              refine ⟨some ⟨g, 0, none⟩, gc, rfl, Lib.hid (set4_1 HB6.out _), Lib.hid ?_, Lib.hid (setR_blkN HL6.out HLBN.out _), Lib.hid ?_, Lib.hid ?_⟩
              · have F5 := HF1.out.below hs5.out
                have S := GrowQ.step2 (w3 := V5.alloc (.cells #[.slice xa tl xc] 42)) lus1 lvs1 ltk1 (World.ownsRow.alloc (row_below HU1.out hs5.out) _) (World.ownsRow.alloc (row_below HV1.out hs5.out) _) HAP1.out (F5.below ((Below.refl _ _).al _)) (fun u hu p e => HUB1.out u hu p e) (O5.out.below ((Below.refl _ _).al _)) hzV1 HRW.out HOW.out HGR.out (HOR.out.imp (fun e => e.symm) (fun e => by rw [e]; simp [Value.ownBlock]))
                exact (S.out ((Out.refl B (B + 1) w6).setC (p := ⟨B, 1, none⟩) (Nat.le_refl _) (Nat.lt_succ_self _) _) HB5L.out).swap
              · exact ((((HO1.out.belowHi hs5.out).al _).grownHi HGR.out (fun q e => (World.ownsRow.lt HV1.out q e).1))).setC (p := ⟨B, 1, none⟩) (Nat.le_refl _) (Nat.lt_succ_self _) _
              · exact HFRQ2.out)
        case rest =>
          obtain ⟨qa', qc', rfl, HSx, HGx, HLx, HOx, HFx⟩ := hcut
          refine hK1 _ _ ?_
          rename World => wa
          clear b0 b1 b2 b3 bl bz p0 p1 p2 p3 p4 pl
          have LX2 := Lib.hid HLx.out
          have BX2 := Lib.hid HSx.out
          have GQ2 := Lib.hid HGx.out
          have HO2 := Lib.hid HOx.out
          have HFRQ2' := Lib.hid HFx.out
          have hzV2 : w5.heap.size ≤ wa.heap.size := HO2.out.size
          have TS2 := Lib.hid (show Sl wa (.slice ta tl tc) tok from (TS.out.below (HO2.out.below HB5W.out HB5W.out.size (by have := HB0.out; omega))))
          clear HFRQ2 HSx HGx HLx HOx HFx
          have HFRQ2 := Lib.hid HFRQ2'.out
          obtain ⟨b0, b1, b2, b3⟩ := cells4s BX2.out
          have bl := lt_of BX2.out
          obtain ⟨p0, p1, p2, p3, p4⟩ := cells5 LX2.out
          have pl := lt_of LX2.out
          go_upto_region 13 with fail
          clear b0 b1 b2 b3 bl p0 p1 p2 p3 p4 pl
          obtain ⟨us2, vs2, lus2, lvs2, ltk2, _, hU1, hV1, hAP, hF1⟩ := GQ2.out
          have HU2 := Lib.hid hU1
          have HV2 := Lib.hid hV1
          have HAP2 := Lib.hid hAP
          have HF2 := Lib.hid hF1
          have HUB2 := Lib.hid (fam_hi hF1)
          have HNE2 := Lib.hid (show some B ≠ (.slice ra k rc : Value).ownBlock from fun e => by have := (World.ownsRow.lt hV1 B e.symm).1; have := HB5L.out; omega)
          have HNL2 := Lib.hid (show some lbx ≠ (.slice ra k rc : Value).ownBlock from fun e => HFRQ2.out lbx e.symm rfl)
          clear hU1 hV1 hAP hF1
          obtain ⟨b0, b1, b2, b3⟩ := cells4s BX2.out
          have bl := lt_of BX2.out
          have bz := fr_of BX2.out 2
          obtain ⟨p0, p1, p2, p3, p4⟩ := cells5 LX2.out
          have pl := lt_of LX2.out
          have CC2 := Lib.hid (fun (W' : World) (hw : Below wa.heap.size wa W') => copyOf_any (.slice ta tl tc) tok W' (TS2.out.below hw) (by have := HT4.out; omega))
          refine wp_open' ?_
          intro K2 hK2
          go_cut [30] from 30 to 50 (fun i wz => ∃ (ra' : Option Addr) (rc' : Nat), i = .int .i64 k ∧ Hid (wz.heap[B]? = some (.cells #[.slice oa m oc, .slice qa' (k + 1) qc', .slice ra' (k + 1) rc', .int .i64 0] 30)) ∧ Hid (GrowQ w5.heap.size (k + 1) (k + 1) wz (.slice qa' (k + 1) qc') (.slice ra' (k + 1) rc') (toksL n)) ∧ Hid (wz.heap[lbx]? = some (.cells #[.int .i64 xf, .int .i64 xo, .int .i64 xt, .int .i64 xi, .slice ta tl tc] 86)) ∧ Hid (Out B (B + 1) w5 wz) ∧ Hid (∀ q, (.slice none 0 0 : Value).ownBlock = some q → q ≠ lbx))
          case first =>
            go_region_law (first | (refine Go.step_append_lies _ rfl (.tmp 43) (.tmp 47) 28 rfl w5.heap.size 42 j0 (.slice none 0 0) 1 24 Try.underlying28 hj hy0 hy1 hy2 rfl (by decide) (.slice ra k rc) k vs2 rfl (World.ownsRow.alloc (row_below HV2.out hs5.out) _) ⟨V5.heap.size, 0, none⟩ 1 1 [.slice xa tl xc] rfl rfl (lit_cells V5 #[.slice xa tl xc] 42) (by intro u hu; simp at hu; subst hu; rfl) (by omega) (by unfold maxLen; omega) (by omega) (by have := hz5; simp; omega) (V5.heap.size + 1) (by simp) ?_; intro g gc w6 hown hgrow hor hglt; have BB := grow_box B5.out hgrow HNE2.out; have LL6 := grow_box L5.out hgrow HNL2.out; obtain ⟨d0, d1, d2, d3⟩ := cells4s BB; have dz := fr_of BB 2; have dl := lt_of BB; have HOW := Lib.hid hown; have HGR := Lib.hid hgrow; have HOR := Lib.hid hor; have HB6 := Lib.hid BB; have HL6 := Lib.hid LL6; clear hown hgrow hor hglt BB LL6) | (go_simp; go_at_call 58; refine (CC2.out _ (by first | with_reducible exact Below.refl _ _ | with_reducible exact (Below.refl _ _).drew)).mono ?_; rintro e V5 ⟨c5, rfl, o5, hb5⟩; have hs5 := Lib.hid (show Below wa.heap.size wa V5 by first | with_reducible exact hb5 | with_reducible exact cr_d hb5); have O5 := Lib.hid (Own.mono (lo' := wa.heap.size) o5 (by first | exact Nat.le_refl _ | simp)); have hz5 : w5.heap.size ≤ V5.heap.size := Nat.le_trans hzV2 hs5.out.size; have B5 := Lib.hid (blk_in BX2.out hs5.out); have L5 := Lib.hid (blk_in LX2.out hs5.out); obtain ⟨y0, y1, y2, y3⟩ := cells4s B5.out; have yz := fr_of B5.out 2; have yl := lt_of B5.out; obtain ⟨xa, xc, hx5⟩ := O5.out.sl.shape; rw [← HTLN.out] at hx5; subst hx5; clear o5 hb5))
            all_goals (
              go_wp2_with fail
              go_meet
              case rel =>
                refine ⟨some ⟨g, 0, none⟩, gc, rfl, Lib.hid (set4_2 HB6.out _), Lib.hid ?_, Lib.hid (setR_blkN HL6.out HLBN.out _), Lib.hid ?_, Lib.hid ?_⟩
                · have F5 := HF2.out.below hs5.out
                  have S := GrowQ.step2 (w3 := V5.alloc (.cells #[.slice xa tl xc] 42)) lus2 lvs2 ltk2 (World.ownsRow.alloc (row_below HU2.out hs5.out) _) (World.ownsRow.alloc (row_below HV2.out hs5.out) _) HAP2.out (F5.below ((Below.refl _ _).al _)) (fun u hu p e => HUB2.out u hu p e) (O5.out.below ((Below.refl _ _).al _)) hzV2 HRW.out HOW.out HGR.out (HOR.out.imp (fun e => e.symm) (fun e => by rw [e]; simp [Value.ownBlock]))
                  exact S.out ((Out.refl B (B + 1) w6).setC (p := ⟨B, 2, none⟩) (Nat.le_refl _) (Nat.lt_succ_self _) _) HB5L.out
                · exact ((((HO2.out.belowHi hs5.out).al _).grownHi HGR.out (fun q e => (World.ownsRow.lt HV2.out q e).1))).setC (p := ⟨B, 2, none⟩) (Nat.le_refl _) (Nat.lt_succ_self _) _
                · exact fun q e => by simp [Value.ownBlock] at e)
          case rest =>
            obtain ⟨ra', rc', rfl, HSx, HGx, HLx, HOx, HFx⟩ := hcut
            refine hK2 _ _ ?_
            go_wp2_with fail
            go_roundw
            case rel => exact ⟨k + 1, qa', qc', ra', rc', by omega, by go_num, HSx, HGx, HOx⟩
            case measure => simp [intOf]; omega
      obtain rfl : ll = k := by omega
      have HQR := Lib.hid (HG.out.qr HTL.out)
      have HAC2 := Lib.hid (show AcH w3.heap.size w5.heap.size wr (.slice oa m oc) XA from AcH.outB HAC.out HS5.out (by decide) (by decide) HO.out)
      have JW := Lib.hid (HO.out.blk JR.out (.inl HB0.out))
      obtain ⟨s0, s1, s2, s3⟩ := cells4s HS.out
      have sl := lt_of HS.out
      obtain ⟨r0, r1, r2, r3⟩ := cells4s JW.out
      have rl := lt_of JW.out
      have rz0 := fr_of JW.out 0
      have rz1 := fr_of JW.out 1
      have rz2 := fr_of JW.out 2
      have rz3 := fr_of JW.out 3
      have q := set4_all JW.out (.slice oa m oc) (.slice qa ll qc) (.slice ra ll rc) (.int .i64 0)
      have Q2 := Lib.hid q.2
      clear q
      go_wp2_with fail
      refine bodyPost_ret (v := .agg #[.slice oa m oc, .slice qa ll qc, .slice ra ll rc, .int .i64 0]) (by simp [results, Try.results14, go_sem, r0, r1, r2, r3]) rfl ⟨_, rfl, ?_, ?_⟩
      · rw [HE.out]
        have z := StR.ofAQ (s := ⟨XA, toksL n, toksL n, 0⟩) HAC2.out HQR.out (Nat.le_refl _) HO35.out.size HO.out.size
        exact (z.out Q2.out (.inr (by have := lt_of J2.out; have := HC3.out.size; omega))).mono (Nat.le_trans HB2.out.size HC3.out.size) Q2.out.size
      · exact Q2.out.below HBW.out HBW.out.size (by omega)
end Go.Proofs.Ytmfagmfclehdbaa
