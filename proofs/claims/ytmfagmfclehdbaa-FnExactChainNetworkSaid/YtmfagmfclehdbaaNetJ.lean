/-
  validCopy and ChainNetwork of the program. No statement of the seat is proved here.
-/
import Derived.Test.YtmfagmfclehdbaaNetI
namespace Go.Proofs.Ytmfagmfclehdbaa
open Go.RowKit


set_option maxRecDepth 100000 in
set_option maxHeartbeats 16000000 in
theorem ivalid_any (v : Value) (n : Net) (w : World) (h : NetV w v n) :
    Calls Try.prog 79 #[v] w fun e w' => ∃ r, e = .returned (.tuple #[r, .bool (okN n)]) ∧ NetR w.heap.size w'.heap.size w' r (if okN n then n else ⟨[], []⟩) ∧ Below w.heap.size w w' := by
  have CN := Lib.hid (fun (W : World) (hw : Below w.heap.size w W) => iisnet_any v n W (h.below hw))
  have CC := Lib.hid (fun (W : World) (hw : Below w.heap.size w W) (hok : okN n = true) => icopynet_any v n W (h.below hw) (ok_small hok))
  obtain ⟨pv, lv, rfl, hp, hl⟩ := h
  obtain ⟨la, lcap, rfl⟩ := hl.shape
  obtain ⟨pa, pcap, rfl⟩ := hp.shape
  obtain ⟨m, hm⟩ : ∃ m, m = n.progs.length := ⟨_, rfl⟩
  obtain ⟨ll, hll⟩ : ∃ m, m = n.links.length := ⟨_, rfl⟩
  rw [← hm, ← hll] at CN CC ⊢
  have NP := Lib.hid hm
  have NL := Lib.hid hll
  clear hp hl hm hll
  have hb := Lib.hid (((Below.refl w.heap.size w).al (.cells #[.slice pa m pcap, .slice la ll lcap] 35)).al (.cells #[.slice none 0 0, .slice none 0 0] 35))
  have hH := Lib.hid (hp21 w (.cells #[.slice pa m pcap, .slice la ll lcap] 35) (.cells #[.slice none 0 0, .slice none 0 0] 35))
  have hH1 := Lib.hid (hp2 w (.cells #[.slice pa m pcap, .slice la ll lcap] 35) (.cells #[.slice none 0 0, .slice none 0 0] 35))
  cases ho : okN n with
  | false =>
    rw [ho] at CN
    clear ho
    go_enter Try.func79, Try.ntmps79
    go_wp2_with (go_at_call 57; with_reducible refine (CN.out _ hb.out).mono ?_; rintro e w2 ⟨rfl, hb1⟩; have HB2 := Lib.hid (hb.out.trans (hb1.mono hb.out.size)); have G2 := Lib.hid (blk_in hH.out hb1); have J2 := Lib.hid (blk_in hH1.out hb1); obtain ⟨k0, k1⟩ := cells2 G2.out; have gl := lt_of G2.out; obtain ⟨r0, r1⟩ := cells2 J2.out; have rl := lt_of J2.out; have rz0 := fr_of J2.out 0; have rz1 := fr_of J2.out 1; clear hb1)
    refine bodyPost_ret (v := .tuple #[.agg #[.slice none 0 0, .slice none 0 0], .bool false]) (by simp [results, Try.results79, go_sem, r0, r1]) rfl ⟨_, rfl, netR_nil _ _ _, ?_⟩
    first | exact HB2.out | exact (HB2.out.setCell (by simp) _).setCell (by simp) _
  | true =>
    rw [ho] at CN
    have HOK := Lib.hid ho
    clear ho
    go_enter Try.func79, Try.ntmps79
    go_wp2_with (first | (go_at_call 72; (with_reducible refine (CC.out _ HB2.out HOK.out).mono ?_); rintro e w4 ⟨r, rfl, hN, hb4⟩; have HC4 := Lib.hid hb4; have HB4 := Lib.hid (HB2.out.trans (hb4.mono HB2.out.size)); have J4 := Lib.hid (blk_in J2.out hb4); have HN4 := Lib.hid hN; obtain ⟨ca, cb, cc, cd, rfl⟩ := hN.shape; rw [← NP.out, ← NL.out] at HN4; rw [← NP.out, ← NL.out]; clear hb4 hN k0 k1 gl r0 r1 rl rz0 rz1; obtain ⟨r0, r1⟩ := cells2 J4.out; have rl := lt_of J4.out; have rz0 := fr_of J4.out 0; have rz1 := fr_of J4.out 1) | (go_at_call 57; with_reducible refine (CN.out _ hb.out).mono ?_; rintro e w2 ⟨rfl, hb1⟩; have HB2 := Lib.hid (hb.out.trans (hb1.mono hb.out.size)); have G2 := Lib.hid (blk_in hH.out hb1); have J2 := Lib.hid (blk_in hH1.out hb1); obtain ⟨k0, k1⟩ := cells2 G2.out; have gl := lt_of G2.out; obtain ⟨r0, r1⟩ := cells2 J2.out; have rl := lt_of J2.out; have rz0 := fr_of J2.out 0; have rz1 := fr_of J2.out 1; clear hb1))
    have q := set2_all J4.out (.slice ca m cb) (.slice cc ll cd)
    refine bodyPost_ret (v := .tuple #[.agg #[.slice ca m cb, .slice cc ll cd], .bool true]) (by simp [results, Try.results79, go_sem, r0, r1]) rfl ⟨_, rfl, ?_, ?_⟩
    · exact (HN4.out.out q.2 (.inr (by have := lt_of J2.out; omega))).mono HB2.out.size q.2.size
    · exact q.2.below HB4.out HB4.out.size (by omega)

theorem cellC_next (u : Value) (ts : List Int) (k : Nat) : cellC u ts (k + 1 + 1) = cellC u ts (k + 1) ++ [.int .i64 (k : Int), .int .i64 0, .int .i64 ((k : Int) + 1), .int .i64 0, .slice none 0 0] := by
  rw [cellC_succ u ts (k + 1), if_neg (by omega), show ((k + 1 : Nat) : Int) - 1 = (k : Int) by omega, show ((k + 1 : Nat) : Int) = (k : Int) + 1 by omega]
theorem not_own {lo T sz n g : Nat} {w : World} {v : Value} {L : List Value} {cs : Array Value} {T' : Nat} (h : w.ownsRow lo T sz v n L) (hg : w.heap[g]? = some (.cells cs T')) (hT : T ≠ T') : some g ≠ v.ownBlock := by
  intro e
  obtain ⟨c2, f2, h2⟩ := row_typed h g e.symm
  rw [hg] at h2
  simp at h2
  exact hT h2.2.1.symm

set_option maxRecDepth 100000 in
set_option maxHeartbeats 16000000 in
theorem ichain_any (v : Value) (ps : List Prg) (u : Value) (ts : List Int) (w : World) (h : SlP w v ps) (hu : Sl w u ts) (hps : ps.length ≤ 1048576) :
    Calls Try.prog 34 #[v, u] w fun e w' => ∃ r, e = .returned (.tuple #[r, .bool (chainB ps ts)]) ∧ NetR w.heap.size w'.heap.size w' r (chainNetworkR0 ps ts) ∧ Below w.heap.size w w' := by
  have HP := Lib.hid h
  have HU := Lib.hid hu
  obtain ⟨pa, pcap, rfl⟩ := h.shape
  obtain ⟨ta, tcap, rfl⟩ := hu.shape
  obtain ⟨m, hm⟩ : ∃ m, m = ps.length := ⟨_, rfl⟩
  obtain ⟨tl, htl⟩ : ∃ m, m = ts.length := ⟨_, rfl⟩
  rw [← hm] at HP hps ⊢
  rw [← htl] at HU ⊢
  have NP := Lib.hid hm
  clear h hu hm htl
  obtain ⟨R0, hR0⟩ : ∃ R, R = chainNetworkR0 ps ts := ⟨_, rfl⟩
  obtain ⟨R1, hR1⟩ : ∃ R, R = chainB ps ts := ⟨_, rfl⟩
  rw [← hR0, ← hR1]
  have HR0 := Lib.hid (show (if okN ⟨ps, chL m ts⟩ then (⟨ps, chL m ts⟩ : Net) else ⟨[], []⟩) = R0 by rw [hR0]; unfold chainNetworkR0 chainB; rw [← NP.out])
  have HR1 := Lib.hid (show okN ⟨ps, chL m ts⟩ = R1 by rw [hR1]; unfold chainB; rw [← NP.out])
  clear hR0 hR1
  obtain ⟨j0, hj, hy0, hy1, hy2⟩ := infoL_parts
  go_enter Try.func34, Try.ntmps34
  go_upto_region 2 with fail
  generalize hW : ((w.alloc (.cells #[.slice none 0 0, .slice none 0 0] 35)).alloc (.cells #[.int .i64 (-1), .int .i64 0, .int .i64 0, .int .i64 0, .slice ta tl tcap] 86)).alloc (.cells #[.slice pa m pcap, .slice (some ⟨w.heap.size + 1, 0, none⟩) 1 1] 35) = w3
  have HS3 := Lib.hid (show w3.heap[w.heap.size + 2]? = some (.cells #[.slice pa m pcap, .slice (some ⟨w.heap.size + 1, 0, none⟩) 1 1] 35) by rw [← hW]; have q := hp1 ((w.alloc (.cells #[.slice none 0 0, .slice none 0 0] 35)).alloc (.cells #[.int .i64 (-1), .int .i64 0, .int .i64 0, .int .i64 0, .slice ta tl tcap] 86)) (.cells #[.slice pa m pcap, .slice (some ⟨w.heap.size + 1, 0, none⟩) 1 1] 35); simpa using q)
  have HJ3 := Lib.hid (show w3.heap[w.heap.size]? = some (.cells #[.slice none 0 0, .slice none 0 0] 35) by rw [← hW]; exact al_keep (hp21 w _ _))
  have HB3 := Lib.hid (show Below w.heap.size w w3 by rw [← hW]; exact ((((Below.refl _ _).al _).al _).al _))
  have HR3 := Lib.hid (show w3.ownsRow w.heap.size 86 5 (.slice (some ⟨w.heap.size + 1, 0, none⟩) 1 1) 1 (cellC (.slice ta tl tcap) ts 1) by rw [← hW]; have q := World.ownsRow_lit (base := w.heap.size) (e := 86) (size := 5) (w.alloc (.cells #[.slice none 0 0, .slice none 0 0] 35)) #[.int .i64 (-1), .int .i64 0, .int .i64 0, .int .i64 0, (.slice ta tl tcap)] 1 (by simp) (by unfold maxLen; omega) rfl; rw [show (w.alloc (.cells #[.slice none 0 0, .slice none 0 0] 35)).heap.size = w.heap.size + 1 by simp] at q; exact World.ownsRow.alloc q _)
  clear hW
  go_wp2_with fail
  go_loopw [15] (fun i wr => ∃ (k : Nat) (oa : Option Addr) (oc : Nat), k ≤ m ∧ i = .int .i64 k ∧ Hid (wr.heap[w.heap.size + 2]? = some (.cells #[.slice pa m pcap, .slice oa (k + 1) oc] 35)) ∧ Hid (wr.heap[w.heap.size]? = some (.cells #[.slice none 0 0, .slice none 0 0] 35)) ∧ Hid (wr.ownsRow w.heap.size 86 5 (.slice oa (k + 1) oc) (k + 1) (cellC (.slice ta tl tcap) ts (k + 1))) ∧ Hid (Below w.heap.size w wr)) (fun i _ => m - (intOf i).toNat)
  case atStart => exact ⟨0, some ⟨w.heap.size + 1, 0, none⟩, 1, Nat.zero_le _, rfl, HS3, HJ3, HR3, HB3⟩
  case round =>
    obtain ⟨k, oa, oc, hk, rfl, HS, HJ, HG, HBW⟩ := hrel
    obtain ⟨b0, b1⟩ := cells2 HS.out
    have bl := lt_of HS.out
    have bz := fr_of HS.out 1
    by_cases hlt : k < m
    case pos =>
      have hwk : wrap64 ((k : Int) + 1) = (k : Int) + 1 := IntWalk.wrap64_in _ (by omega)
      have HNE := Lib.hid (not_own HG.out HS.out (by decide))
      have HNJ := Lib.hid (not_own HG.out HJ.out (by decide))
      go_wp2_with (at_builtin; refine Go.wpList_append_lies _ rfl _ _ 33 rfl w.heap.size 86 j0 (.agg #[.int .i64 0, .int .i64 0, .int .i64 0, .int .i64 0, .slice none 0 0]) 5 56 Try.underlying33 hj hy0 hy1 hy2 rfl (by decide) (.slice oa (k + 1) oc) (k + 1) (cellC (.slice ta tl tcap) ts (k + 1)) rfl (World.ownsRow.alloc HG.out _) ⟨wr.heap.size, 0, none⟩ 1 1 [.int .i64 (k : Int), .int .i64 0, .int .i64 ((k : Int) + 1), .int .i64 0, .slice none 0 0] rfl rfl (lit_cells wr #[.int .i64 (k : Int), .int .i64 0, .int .i64 ((k : Int) + 1), .int .i64 0, .slice none 0 0] 86) (by intro u hu; simp at hu; rcases hu with rfl | rfl | rfl | rfl | rfl <;> rfl) (by omega) (by unfold maxLen; omega) (by omega) (by simp; exact Nat.le_trans HBW.out.size (Nat.le_succ _)) (wr.heap.size + 1) (by simp) ?_; intro g gc w6 hown hgrow hor hglt; have B6 := Lib.hid (grow_box HS.out hgrow HNE.out); have J6 := Lib.hid (grow_box HJ.out hgrow HNJ.out); have HOW := Lib.hid hown; have HGR := Lib.hid hgrow; obtain ⟨d0, d1⟩ := cells2 B6.out; have dz := fr_of B6.out 1; have dl := lt_of B6.out; clear hown hgrow hor hglt)
      go_roundw
      case rel =>
        have hs := HGR.out.size
        refine ⟨k + 1, some ⟨g, 0, none⟩, gc, by omega, by go_num, Lib.hid (set2_1 B6.out _), Lib.hid (setR_blkN J6.out (by omega) _), Lib.hid ?_, Lib.hid ?_⟩
        · rw [cellC_next]
          exact row_out HOW.out ((Out.refl (w.heap.size + 2) (w.heap.size + 3) w6).setC (p := ⟨w.heap.size + 2, 1, none⟩) (Nat.le_refl _) (by simp) _) (fun q e => by have := not_own HOW.out B6.out (by decide); rw [e] at this; have : w.heap.size + 2 ≠ q := fun e2 => this (by rw [e2]); omega)
        · exact ((HBW.out.al _).grown HGR.out (by simp; exact Nat.le_trans HBW.out.size (Nat.le_succ _)) (fun q e => (World.ownsRow.lt HG.out q e).1)).setCell (p := ⟨w.heap.size + 2, 1, none⟩) (by simp) _
      case measure => simp [intOf]; omega
    obtain rfl : m = k := by omega
    obtain ⟨LB, c2, hve⟩ : ∃ LB c2, (Value.slice oa (m + 1) oc) = .slice (some ⟨LB, 0, none⟩) (m + 1) c2 := by
      rcases HG.out.2 with ⟨_, e⟩ | ⟨g, cap, cur, e, _⟩
      · omega
      · exact ⟨g, cap, e⟩
    simp only [Value.slice.injEq, true_and] at hve
    obtain ⟨rfl, rfl⟩ := hve
    have HRW := Lib.hid (HG.out.stored (m * 5 + 2) (.int .i64 (-1))).1
    have LBl := (World.ownsRow.lt HG.out LB rfl)
    have c2' : ∃ y, wr.cell? ⟨LB, m * 5 + 2, none⟩ = some y := by
      rw [HG.out.cellAt _ (by omega), List.getElem?_eq_getElem (by rw [cellC_len]; omega)]; exact ⟨_, rfl⟩
    obtain ⟨y2, cy2⟩ := c2'
    have f2 := HG.out.frozenAt (m * 5 + 2)
    have nb := not_own HG.out HS.out (by decide)
    have nj := not_own HG.out HJ.out (by decide)
    have HNB := Lib.hid (show w.heap.size + 2 ≠ LB from fun e => nb (by rw [e]; rfl))
    have HNJ := Lib.hid (show w.heap.size ≠ LB from fun e => nj (by rw [e]; rfl))
    clear nb nj
    have im1 : (0 : Int) ≤ (m : Int) := by omega
    have im2 : (m : Int) < ((m + 1 : Nat) : Int) := by omega
    go_upto_region 8 with fail
    generalize hW6 : wr.setCell ⟨LB, m * 5 + 2, none⟩ (.int .i64 (-1)) = W6
    have B6 := Lib.hid (show W6.heap[w.heap.size + 2]? = some _ by rw [← hW6]; exact setR_blkN HS.out HNB.out _)
    have J6 := Lib.hid (show W6.heap[w.heap.size]? = some _ by rw [← hW6]; exact setR_blkN HJ.out HNJ.out _)
    have HB6 := Lib.hid (show Below w.heap.size w W6 by rw [← hW6]; exact HBW.out.setCell (p := ⟨LB, m * 5 + 2, none⟩) LBl.1 _)
    have HR6 := Lib.hid (show W6.ownsRow w.heap.size 86 5 (.slice (some ⟨LB, 0, none⟩) (m + 1) oc) (m + 1) (cellsL (chL m ts) (usC (.slice ta tl tcap) (m + 1))) by rw [← hW6, ← cellC_set]; exact HRW.out)
    clear hW6 b0 b1 bl bz cy2 f2
    have HV6 := Lib.hid (chain_row HR6.out (HU.out.below HB6.out) (by omega))
    have CV := Lib.hid (fun (W : World) (hw : Below W6.heap.size W6 W) => ivalid_any (.agg #[.slice pa m pcap, .slice (some ⟨LB, 0, none⟩) (m + 1) oc]) ⟨ps, chL m ts⟩ W ⟨_, _, rfl, HP.out.below (HB6.out.trans (hw.mono HB6.out.size)), HV6.out.below hw⟩)
    obtain ⟨b0, b1⟩ := cells2 B6.out
    have bl := lt_of B6.out
    rw [HR0.out, HR1.out] at CV
    go_wp2_with (go_at_call 79; (with_reducible refine (CV.out _ (Below.refl _ _)).mono ?_); rintro e w7 ⟨r, rfl, hN, hb7⟩; have HB7 := Lib.hid (HB6.out.trans (hb7.mono HB6.out.size)); have J7 := Lib.hid (blk_in J6.out hb7); have HN7 := Lib.hid hN; obtain ⟨ca, cb, cc, cd, rfl⟩ := hN.shape; clear hb7 hN; obtain ⟨r0, r1⟩ := cells2 J7.out; have rl := lt_of J7.out; have rz0 := fr_of J7.out 0; have rz1 := fr_of J7.out 1)
    have q := set2_all J7.out (.slice ca R0.progs.length cb) (.slice cc R0.links.length cd)
    refine bodyPost_ret (v := .tuple #[.agg #[.slice ca R0.progs.length cb, .slice cc R0.links.length cd], .bool R1]) (by simp [results, Try.results34, go_sem, r0, r1]) rfl ⟨_, rfl, ?_, ?_⟩
    · exact (HN7.out.out q.2 (.inr (by have := lt_of J6.out; omega))).mono HB6.out.size q.2.size
    · exact q.2.below HB7.out HB7.out.size (by omega)
end Go.Proofs.Ytmfagmfclehdbaa
