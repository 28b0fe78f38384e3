/-
  Where processes are blocked: the program's answer and the model's. No statement of the seat is proved here.
-/
import Derived.Test.YtjphamgkigekkaaCanI
import Derived.Test.YtjphamgkigekkaaCanS
import Derived.Deep.RegionHeld3
import Derived.Deep.Cut
import Derived.Maps.AppendAt
namespace Go.Proofs.Ytjphamgkigekkaa
open Go.RowKit

def blkL (n : Net) (s : Stt) (m k : Nat) : List Int := (List.range m).map fun i => if i < k then blockK n s i else 0
theorem blkL_zero (n : Net) (s : Stt) (m : Nat) : vals (blkL n s m 0) = List.replicate m (.int .i64 0) := by
  unfold vals blkL
  rw [List.map_map]
  apply List.ext_getElem?
  intro i
  rw [List.getElem?_map, List.getElem?_replicate]
  by_cases h : i < m
  · rw [List.getElem?_range h, if_pos h]; simp
  · rw [List.getElem?_eq_none (by simpa using h), if_neg h]; rfl
theorem blkL_step {n : Net} {s : Stt} {m k : Nat} (hk : k < m) : (vals (blkL n s m k)).set k (.int .i64 (blockK n s k)) = vals (blkL n s m (k + 1)) := by
  unfold vals blkL
  rw [List.map_map, List.map_map]
  apply List.ext_getElem?
  intro i
  rw [List.getElem?_set]
  by_cases e : k = i
  · subst e
    rw [if_pos rfl, if_pos (by simpa using hk), List.getElem?_map, List.getElem?_range hk]
    simp
  · rw [if_neg e, List.getElem?_map, List.getElem?_map]
    by_cases h : i < m
    · rw [List.getElem?_range h]
      simp only [Option.map_some, Function.comp]
      congr 2
      by_cases q : i < k
      · rw [if_pos q, if_pos (by omega)]
      · rw [if_neg q, if_neg (by omega)]
    · rw [List.getElem?_eq_none (by simpa using h)]; rfl
theorem blkL_all (n : Net) (s : Stt) (m : Nat) : blkL n s m m = (List.range m).map (blockK n s) := by
  unfold blkL
  apply List.map_congr_left
  intro i hi
  rw [if_pos (List.mem_range.1 hi)]
theorem blkS_step (n : Net) (s : Stt) (k : Nat) : (List.range (k + 1)).map (blockK n s) = (List.range k).map (blockK n s) ++ [blockK n s k] := by
  rw [List.range_succ, List.map_append]; rfl
theorem blocked_no {n : Net} {s : Stt} (h : isStateR0 n s = false) : blockedOnR0 n s = [] := by unfold blockedOnR0; rw [h]; rfl
theorem blocked_yes {n : Net} {s : Stt} (h : isStateR0 n s = true) : blockedOnR0 n s = (List.range n.progs.length).map (blockK n s) := by unfold blockedOnR0; rw [h]; rfl
theorem block_no {n : Net} {s : Stt} {k : Nat} (h : wantK n s k ≠ 2) : blockK n s k = -1 := by unfold blockK; rw [if_neg (fun q => h q.1)]

set_option maxRecDepth 100000 in
set_option maxHeartbeats 8000000 in
theorem iblocked_any (v u : Value) (n : Net) (s : Stt) (w : World) (hv : NetV w v n) (hu : StV w u s) :
    Calls Try.prog 51 #[v, u] w fun e w' => ∃ r, e = .returned r ∧ OwnH w.heap.size w'.heap.size w' r (blockedOnR0 n s) ∧ Below w.heap.size w w' := by
  have CI := Lib.hid (fun (W : World) (hw : Below w.heap.size w W) => iisst_any v u n s W (hv.below hw) (hu.below hw))
  have CN := Lib.hid (fun (W : World) (i : Nat) (hw : Below w.heap.size w W) (hg : GoodSt n s) (hk : i < n.progs.length) => inext_any v u n s i W (hv.below hw) (hu.below hw) hg hk)
  obtain ⟨pv, lv, rfl, hp, hl⟩ := hv
  obtain ⟨av, qv, rv, rfl, ha, hq, hr⟩ := hu
  have HP := Lib.hid hp
  have HL := Lib.hid hl
  have HA := Lib.hid ha
  have HQ := Lib.hid hq
  have HR := Lib.hid hr
  have LP := hp.len
  have LL := hl.len
  have LA := ha.len
  have LQ := hq.len
  have LR := hr.len
  obtain ⟨pl, hpl⟩ : ∃ z, z = n.progs.length := ⟨_, rfl⟩
  obtain ⟨ll, hll⟩ : ∃ z, z = n.links.length := ⟨_, rfl⟩
  obtain ⟨al, hal⟩ : ∃ z, z = s.acts.length := ⟨_, rfl⟩
  obtain ⟨ql, hql⟩ : ∃ z, z = s.queues.length := ⟨_, rfl⟩
  obtain ⟨rl, hrl⟩ : ∃ z, z = s.sent.length := ⟨_, rfl⟩
  obtain ⟨st, hst⟩ : ∃ z, z = s.steps := ⟨_, rfl⟩
  obtain ⟨pa, pcap, rfl⟩ := hp.shape
  obtain ⟨la, lcap, rfl⟩ := hl.shape
  obtain ⟨aa, ac, rfl⟩ := ha.shape
  obtain ⟨qa, qc, rfl⟩ := hq.shape
  obtain ⟨ra, rc, rfl⟩ := hr.shape
  clear hp hl ha hq hr
  obtain ⟨R, hR⟩ : ∃ R, R = blockedOnR0 n s := ⟨_, rfl⟩
  have HRR := Lib.hid hR
  rw [← hR]
  clear hR
  simp only [← hpl, ← hll, ← hal, ← hql, ← hrl, ← hst] at HP HL HA HQ HR CI CN LP LL LA LQ LR ⊢
  have NP := Lib.hid hpl
  have NL := Lib.hid hll
  have NA := Lib.hid hal
  have NQ := Lib.hid hql
  have NR := Lib.hid hrl
  have NS := Lib.hid hst
  clear hpl hll hal hql hrl hst
  have hb := Lib.hid (((Below.refl w.heap.size w).al (.cells #[.slice pa pl pcap, .slice la ll lcap] 34)).al (.cells #[.slice aa al ac, .slice qa ql qc, .slice ra rl rc, .int .i64 st] 53))
  have hH0 := Lib.hid (hp21 w (.cells #[.slice pa pl pcap, .slice la ll lcap] 34) (.cells #[.slice aa al ac, .slice qa ql qc, .slice ra rl rc, .int .i64 st] 53))
  have hH1 := Lib.hid (hp2 w (.cells #[.slice pa pl pcap, .slice la ll lcap] 34) (.cells #[.slice aa al ac, .slice qa ql qc, .slice ra rl rc, .int .i64 st] 53))
  obtain ⟨i0, hi, hz0, hz1, hz2⟩ := info_parts info
  cases hs : isStateR0 n s with
  | false =>
    rw [hs] at CI
    have HE := Lib.hid (HRR.out.trans (blocked_no hs))
    clear hs
    obtain rfl := HE.out
    go_enter Try.func51, Try.ntmps51
    go_wp2_with (go_at_call 45; with_reducible refine (CI.out _ hb.out).mono ?_; rintro e w1 ⟨rfl, hb1⟩; have HB1 := Lib.hid (hb.out.trans (hb1.mono hb.out.size)); have K1 := Lib.hid (blk_in hH0.out hb1); have J1 := Lib.hid (blk_in hH1.out hb1); obtain ⟨n0, n1⟩ := cells2 K1.out; obtain ⟨s0, s1, s2, s3⟩ := cells4s J1.out; have nl := lt_of K1.out; have sl := lt_of J1.out; clear hb1)
    go_ret
    exact ⟨_, rfl, ⟨own_nil _ _, fun q e => by simp [Value.ownBlock] at e⟩, HB1.out⟩
  | true =>
    rw [hs] at CI
    have HG := Lib.hid (isState_good hs)
    have HE := Lib.hid (HRR.out.trans (blocked_yes hs))
    have hpl12 : pl ≤ 12 := by rw [NP.out]; exact (okN_len HG.out.ok).1
    clear hs
    have HJQ := Lib.hid (show ∀ j : Nat, j < n.links.length → j < ql by intro j hj; have := NQ.out; have := HG.out.lq; omega)
    go_enter Try.func51, Try.ntmps51
    go_wp2_with (first | (go_at_call 45; with_reducible refine (CI.out _ hb.out).mono ?_; rintro e w1 ⟨rfl, hb1⟩; have HB1 := Lib.hid (hb.out.trans (hb1.mono hb.out.size)); have K1 := Lib.hid (blk_in hH0.out hb1); have J1 := Lib.hid (blk_in hH1.out hb1); obtain ⟨n0, n1⟩ := cells2 K1.out; obtain ⟨s0, s1, s2, s3⟩ := cells4s J1.out; have nl := lt_of K1.out; have sl := lt_of J1.out; clear hb1) | (at_make; refine wpList_make_full _ rfl _ _ 46 rfl w1.heap.size 3 i0 (.int .i64 0) 1 Try.underlying46 hi hz0 hz1 _ _ _ _ pl rfl rfl rfl rfl ?b2 ?b3 ?b4 ?_))
    case b2 => rw [hz2]; omega
    case b3 => unfold maxLen; omega
    case b4 => exact Nat.le_refl _
    intro w2 hown hgrow
    have HB2 := Lib.hid ((Below.refl w1.heap.size w1).grown hgrow (Nat.le_refl _) (by simp))
    have HO2 := Lib.hid (show w2.ownsRow w1.heap.size 3 1 (.slice (some ⟨w1.heap.size, 0, none⟩) pl pl) pl (vals (blkL n s pl 0)) by rw [blkL_zero, ← toList_madeCells_one]; exact hown)
    clear hgrow hown hi hz0 hz1 hz2 n0 n1 s0 s1 s2 s3 nl sl
    go_wp2_with fail
    go_loopw [19] (fun i wr => ∃ k : Nat, k ≤ pl ∧ i = .int .i64 k ∧ Hid (wr.ownsRow w1.heap.size 3 1 (.slice (some ⟨w1.heap.size, 0, none⟩) pl pl) pl (vals (blkL n s pl k))) ∧ Hid (Below w1.heap.size w1 wr)) (fun i _ => pl - (intOf i).toNat)
    case atStart => exact ⟨0, Nat.zero_le _, rfl, HO2, HB2⟩
    case round =>
      clear HO2 HB2
      obtain ⟨k, hk, rfl, HO, HB⟩ := hrel
      by_cases hlt : k < pl
      case neg =>
        have HF := Lib.hid (show wr.ownsRow w1.heap.size 3 1 (.slice (some ⟨w1.heap.size, 0, none⟩) pl pl) pl (vals R) by rw [HE.out, ← NP.out, ← blkL_all]; have := HO.out; rwa [show k = pl by omega] at this)
        have HLR := Lib.hid (show R.length = pl by rw [HE.out, ← NP.out]; simp)
        go_wp2_with fail
        go_ret
        exact ⟨_, rfl, ⟨(show wr.ownsRow _ 3 1 _ R.length (vals R) by rw [HLR.out]; exact row_mono HF.out HB1.out.size), fun q e => (World.ownsRow.lt HF.out q e).2⟩, HB1.out.trans (HB.out.mono HB1.out.size)⟩
      have z1 := HO.out.frozenAt k
      obtain ⟨y1, c1⟩ : ∃ y, wr.cell? ⟨w1.heap.size, k, none⟩ = some y := by rw [HO.out.cellAt k (by omega), List.getElem?_eq_getElem (by rw [HO.out.1]; omega)]; exact ⟨_, rfl⟩
      have g1 : w1.heap.size < wr.heap.size := (World.ownsRow.lt HO.out _ rfl).2
      have K2 := Lib.hid (blk_in K1.out HB.out)
      have J2 := Lib.hid (blk_in J1.out HB.out)
      have l1 := lt_of K1.out
      have l2 := lt_of J1.out
      go_upto_region 8 with fail
      obtain ⟨W, hW⟩ : ∃ W, W = wr.setCell ⟨w1.heap.size, k, none⟩ (.int .i64 (-1)) := ⟨_, rfl⟩
      rw [← hW]
      have HOW := Lib.hid (show W.ownsRow w1.heap.size 3 1 (.slice (some ⟨w1.heap.size, 0, none⟩) pl pl) pl ((vals (blkL n s pl k)).set k (.int .i64 (-1))) by rw [hW]; exact (HO.out.stored k (.int .i64 (-1))).1)
      have HBW := Lib.hid (show Below w1.heap.size w1 W by rw [hW]; exact HB.out.setCell (Nat.le_refl _) _)
      have K3 := Lib.hid (show W.heap[w.heap.size]? = some (.cells #[.slice pa pl pcap, .slice la ll lcap] 34) by rw [hW]; exact setR_blkN K2.out (by omega) _)
      have J3 := Lib.hid (show W.heap[w.heap.size + 1]? = some (.cells #[.slice aa al ac, .slice qa ql qc, .slice ra rl rc, .int .i64 st] 53) by rw [hW]; exact setR_blkN J2.out (by omega) _)
      clear hW z1 c1 g1 l1 l2
      obtain ⟨n0, n1⟩ := cells2 K3.out; obtain ⟨s0, s1, s2, s3⟩ := cells4s J3.out; have nl := lt_of K3.out; have sl := lt_of J3.out
      have CK := Lib.hid (CN.out W k (HB1.out.trans (HBW.out.mono HB1.out.size)) HG.out (by have := NP.out; omega))
      by_cases h2 : wantK n s k = 2
      case neg =>
        have HBK := Lib.hid (block_no h2)
        have d2 : (wantK n s k == 2) = false := by simpa using h2
        have ST := Lib.hid (blkL_step (n := n) (s := s) hlt)
        rw [HBK.out] at ST
        go_wp2_with (go_at_call 105; refine CK.out.mono ?_; rintro e w4 ⟨rfl, hb4⟩; have HB4 := Lib.hid (HBW.out.trans (hb4.mono HBW.out.size)); have HO4 := Lib.hid (row_below HOW.out hb4); have K4 := Lib.hid (blk_in K3.out hb4); have J4 := Lib.hid (blk_in J3.out hb4); clear n0 n1 s0 s1 s2 s3 nl sl; obtain ⟨n0, n1⟩ := cells2 K4.out; obtain ⟨s0, s1, s2, s3⟩ := cells4s J4.out; have nl := lt_of K4.out; have sl := lt_of J4.out; have z4 := HO4.out.frozenAt k; obtain ⟨y4, c4⟩ : ∃ y, w4.cell? ⟨w1.heap.size, k, none⟩ = some y := (by rw [HO4.out.cellAt k (by omega), List.getElem?_eq_getElem (by rw [HO4.out.1]; omega)]; exact ⟨_, rfl⟩); have g4 : w1.heap.size < w4.heap.size := (World.ownsRow.lt HO4.out _ rfl).2; clear hb4)
        go_roundw
        case rel => exact ⟨k + 1, by omega, by go_num, Lib.hid (by rw [← ST.out]; exact HO4.out), Lib.hid HB4.out⟩
        case measure => simp [intOf]; omega
      obtain ⟨j, j1, j2, _⟩ := HG.out.link (k := k) (by have := NP.out; omega) (.inl h2)
      obtain ⟨y, hy⟩ : ∃ y, s.queues[j]? = some y := ⟨_, List.getElem?_eq_getElem (by rw [HG.out.lq]; exact j2)⟩
      obtain ⟨qb, qo, cq, hqa, hqb, f0, fs⟩ := (HQ.out.below (HB1.out.trans (HBW.out.mono HB1.out.size))).atb hy
      obtain ⟨va, vc, rfl⟩ := fs.shape
      obtain ⟨vl, hvl⟩ : ∃ q, q = y.length := ⟨_, rfl⟩
      rw [← hvl] at f0
      have hjq : j < ql := HJQ.out j j2
      have HBK := Lib.hid (show blockK n s k = if vl = 0 then (j : Int) else -1 by unfold blockK; rw [j1]; unfold rowAt; rw [Int.toNat_natCast, getD_at hy, ← hvl]; by_cases q : vl = 0 <;> simp [q, h2])
      subst hqa
      rw [h2, j1] at CK
      have ST := Lib.hid (blkL_step (n := n) (s := s) hlt)
      rw [HBK.out] at ST
      clear h2 j1 j2 hy fs hvl
      by_cases hv0 : vl = 0
      · have dv : ((vl : Int) == 0) = true := by subst hv0; rfl
        rw [if_pos hv0] at ST
        go_wp2_with (go_at_call 105; refine CK.out.mono ?_; rintro e w4 ⟨rfl, hb4⟩; have HB4 := Lib.hid (HBW.out.trans (hb4.mono HBW.out.size)); have HO4 := Lib.hid (row_below HOW.out hb4); have K4 := Lib.hid (blk_in K3.out hb4); have J4 := Lib.hid (blk_in J3.out hb4); clear n0 n1 s0 s1 s2 s3 nl sl; obtain ⟨n0, n1⟩ := cells2 K4.out; obtain ⟨s0, s1, s2, s3⟩ := cells4s J4.out; have nl := lt_of K4.out; have sl := lt_of J4.out; have z4 := HO4.out.frozenAt k; obtain ⟨y4, c4⟩ : ∃ y, w4.cell? ⟨w1.heap.size, k, none⟩ = some y := (by rw [HO4.out.cellAt k (by omega), List.getElem?_eq_getElem (by rw [HO4.out.1]; omega)]; exact ⟨_, rfl⟩); have g4 : w1.heap.size < w4.heap.size := (World.ownsRow.lt HO4.out _ rfl).2; have f0' := (hb4.cell (p := ⟨qb, qo + j, none⟩) hqb).trans f0; have hqb4 : qb < w4.heap.size := Nat.lt_of_lt_of_le hqb hb4.size; clear hb4)
        go_roundw
        case rel => exact ⟨k + 1, by omega, by go_num, Lib.hid (by rw [← ST.out]; have q := (HO4.out.stored k (.int .i64 (j : Int))).1; rw [List.set_set] at q; exact q), Lib.hid (HB4.out.setCell (Nat.le_refl _) _)⟩
        case measure => simp [intOf]; omega
      · have dv : ((vl : Int) == 0) = false := by rw [beq_eq_false_iff_ne]; omega
        rw [if_neg hv0] at ST
        go_wp2_with (go_at_call 105; refine CK.out.mono ?_; rintro e w4 ⟨rfl, hb4⟩; have HB4 := Lib.hid (HBW.out.trans (hb4.mono HBW.out.size)); have HO4 := Lib.hid (row_below HOW.out hb4); have K4 := Lib.hid (blk_in K3.out hb4); have J4 := Lib.hid (blk_in J3.out hb4); clear n0 n1 s0 s1 s2 s3 nl sl; obtain ⟨n0, n1⟩ := cells2 K4.out; obtain ⟨s0, s1, s2, s3⟩ := cells4s J4.out; have nl := lt_of K4.out; have sl := lt_of J4.out; have z4 := HO4.out.frozenAt k; obtain ⟨y4, c4⟩ : ∃ y, w4.cell? ⟨w1.heap.size, k, none⟩ = some y := (by rw [HO4.out.cellAt k (by omega), List.getElem?_eq_getElem (by rw [HO4.out.1]; omega)]; exact ⟨_, rfl⟩); have g4 : w1.heap.size < w4.heap.size := (World.ownsRow.lt HO4.out _ rfl).2; have f0' := (hb4.cell (p := ⟨qb, qo + j, none⟩) hqb).trans f0; have hqb4 : qb < w4.heap.size := Nat.lt_of_lt_of_le hqb hb4.size; clear hb4)
        go_roundw
        case rel => exact ⟨k + 1, by omega, by go_num, Lib.hid (by rw [← ST.out]; exact HO4.out), Lib.hid HB4.out⟩
        case measure => simp [intOf]; omega
set_option maxRecDepth 100000 in
set_option maxHeartbeats 8000000 in
theorem sblocked_any (v u : Value) (n : Net) (s : Stt) (w : World) (hv : NetV w v n) (hu : StV w u s) :
    Calls Try.prog 50 #[v, u] w fun e w' => ∃ r, e = .returned r ∧ OwnH w.heap.size w'.heap.size w' r (blockedOnR0 n s) ∧ Below w.heap.size w w' := by
  have CI := Lib.hid (fun (W : World) (hw : Below w.heap.size w W) => sisst_any v u n s W (hv.below hw) (hu.below hw))
  have CL := Lib.hid (fun (W : World) (i : Nat) (hw : Below w.heap.size w W) (hg : GoodSt n s) (hk : i < n.progs.length) => slink5_any v u n s i W (hv.below hw) (hu.below hw) hg hk)
  obtain ⟨pv, lv, rfl, hp, hl⟩ := hv
  obtain ⟨av, qv, rv, rfl, ha, hq, hr⟩ := hu
  have HP := Lib.hid hp
  have HL := Lib.hid hl
  have HA := Lib.hid ha
  have HQ := Lib.hid hq
  have HR := Lib.hid hr
  have LP := hp.len
  have LL := hl.len
  have LA := ha.len
  have LQ := hq.len
  have LR := hr.len
  obtain ⟨pl, hpl⟩ : ∃ z, z = n.progs.length := ⟨_, rfl⟩
  obtain ⟨ll, hll⟩ : ∃ z, z = n.links.length := ⟨_, rfl⟩
  obtain ⟨al, hal⟩ : ∃ z, z = s.acts.length := ⟨_, rfl⟩
  obtain ⟨ql, hql⟩ : ∃ z, z = s.queues.length := ⟨_, rfl⟩
  obtain ⟨rl, hrl⟩ : ∃ z, z = s.sent.length := ⟨_, rfl⟩
  obtain ⟨st, hst⟩ : ∃ z, z = s.steps := ⟨_, rfl⟩
  obtain ⟨pa, pcap, rfl⟩ := hp.shape
  obtain ⟨la, lcap, rfl⟩ := hl.shape
  obtain ⟨aa, ac, rfl⟩ := ha.shape
  obtain ⟨qa, qc, rfl⟩ := hq.shape
  obtain ⟨ra, rc, rfl⟩ := hr.shape
  clear hp hl ha hq hr
  obtain ⟨R, hR⟩ : ∃ R, R = blockedOnR0 n s := ⟨_, rfl⟩
  have HRR := Lib.hid hR
  rw [← hR]
  clear hR
  simp only [← hpl, ← hll, ← hal, ← hql, ← hrl, ← hst] at HP HL HA HQ HR CI CL LP LL LA LQ LR ⊢
  have NP := Lib.hid hpl
  have NL := Lib.hid hll
  have NA := Lib.hid hal
  have NQ := Lib.hid hql
  have NR := Lib.hid hrl
  have NS := Lib.hid hst
  clear hpl hll hal hql hrl hst
  have hb := Lib.hid (((Below.refl w.heap.size w).al (.cells #[.slice pa pl pcap, .slice la ll lcap] 34)).al (.cells #[.slice aa al ac, .slice qa ql qc, .slice ra rl rc, .int .i64 st] 53))
  have hH0 := Lib.hid (hp21 w (.cells #[.slice pa pl pcap, .slice la ll lcap] 34) (.cells #[.slice aa al ac, .slice qa ql qc, .slice ra rl rc, .int .i64 st] 53))
  have hH1 := Lib.hid (hp2 w (.cells #[.slice pa pl pcap, .slice la ll lcap] 34) (.cells #[.slice aa al ac, .slice qa ql qc, .slice ra rl rc, .int .i64 st] 53))
  obtain ⟨i0, hi, hz0, hz1, hz2⟩ := info_parts info
  cases hs : isStateR0 n s with
  | false =>
    rw [hs] at CI
    have HE := Lib.hid (HRR.out.trans (blocked_no hs))
    clear hs
    obtain rfl := HE.out
    go_enter Try.func50, Try.ntmps50
    go_wp2_with (go_at_call 43; with_reducible refine (CI.out _ hb.out).mono ?_; rintro e w1 ⟨rfl, hb1⟩; have HB1 := Lib.hid (hb.out.trans (hb1.mono hb.out.size)); have K1 := Lib.hid (blk_in hH0.out hb1); have J1 := Lib.hid (blk_in hH1.out hb1); obtain ⟨n0, n1⟩ := cells2 K1.out; obtain ⟨s0, s1, s2, s3⟩ := cells4s J1.out; have nl := lt_of K1.out; have sl := lt_of J1.out; clear hb1)
    go_ret
    exact ⟨_, rfl, ⟨own_nil _ _, fun q e => by simp [Value.ownBlock] at e⟩, HB1.out⟩
  | true =>
    rw [hs] at CI
    have HG := Lib.hid (isState_good hs)
    have HE := Lib.hid (HRR.out.trans (blocked_yes hs))
    have hpl12 : pl ≤ 12 := by rw [NP.out]; exact (okN_len HG.out.ok).1
    clear hs
    have HJQ := Lib.hid (show ∀ j : Nat, j < n.links.length → j < ql by intro j hj; have := NQ.out; have := HG.out.lq; omega)
    go_enter Try.func50, Try.ntmps50
    go_wp2_with (go_at_call 43; with_reducible refine (CI.out _ hb.out).mono ?_; rintro e w1 ⟨rfl, hb1⟩; have HB1 := Lib.hid (hb.out.trans (hb1.mono hb.out.size)); have K1 := Lib.hid (blk_in hH0.out hb1); have J1 := Lib.hid (blk_in hH1.out hb1); obtain ⟨n0, n1⟩ := cells2 K1.out; obtain ⟨s0, s1, s2, s3⟩ := cells4s J1.out; have nl := lt_of K1.out; have sl := lt_of J1.out; clear hb1)
    clear n0 n1 s0 s1 s2 s3 nl sl
    go_loopw [5, 18] (fun b i wr => ∃ k : Nat, k ≤ pl ∧ i = .int .i64 k ∧ Hid (Own w1.heap.size wr b ((List.range k).map (blockK n s))) ∧ Hid (Below w1.heap.size w1 wr)) (fun _ i _ => pl - (intOf i).toNat)
    case atStart => exact ⟨0, Nat.zero_le _, rfl, Lib.hid (show Own w1.heap.size _ _ [] from lit0 w1), Lib.hid ((Below.refl _ _).al _)⟩
    case round =>
      obtain ⟨k, hk, rfl, HO, HB⟩ := hrel
      by_cases hlt : k < pl
      case neg =>
        have HF := Lib.hid (show (List.range k).map (blockK n s) = R by rw [HE.out, ← NP.out, show k = pl by omega])
        go_wp2_with fail
        go_ret
        exact ⟨_, rfl, by rw [← HF.out]; exact ⟨HO.out.mono HB1.out.size, fun q e => (HO.out.lt q e).2⟩, HB1.out.trans (HB.out.mono HB1.out.size)⟩
      have hbw := HB1.out.trans (HB.out.mono HB1.out.size)
      obtain ⟨p, a, hpk, hak, hoP, hoA, hpc, e1, e2⟩ := HG.out.at (k := k) (by have := NP.out; omega)
      obtain ⟨gb, go, c, hpa, hgb, k0, k1, k2, ks⟩ := (HP.out.below hbw).atb hpk
      obtain ⟨ab, ao, d, haa, hab, f0, f1, fs⟩ := (HA.out.below hbw).atb hak
      have hwt : wantK n s k = wantC p.code a.pc.toNat := by unfold wantK; rw [e1, e2]
      have hpt : portK n s k = portC p.code a.pc.toNat := by unfold portK; rw [e1, e2]
      have CW := Lib.hid (fun (W : World) (hw : Below wr.heap.size wr W) => swantat_any (.agg #[.int .i64 p.ins, .int .i64 p.outs, c]) p a.pc d W ⟨c, rfl, ks.below hw⟩ hpc)
      rw [← hwt, ← hpt] at CW
      obtain ⟨ua, uc, rfl⟩ := ks.shape
      obtain ⟨va2, vc2, rfl⟩ := fs.shape
      obtain ⟨ul, hul⟩ : ∃ q, q = p.code.length := ⟨_, rfl⟩
      obtain ⟨vl2, hvl2⟩ : ∃ q, q = a.regs.length := ⟨_, rfl⟩
      obtain ⟨pi, hpi⟩ : ∃ q, q = p.ins := ⟨_, rfl⟩
      obtain ⟨po, hpo⟩ : ∃ q, q = p.outs := ⟨_, rfl⟩
      obtain ⟨pc, hpcc⟩ : ∃ q, q = a.pc := ⟨_, rfl⟩
      simp only [← hul, ← hvl2, ← hpi, ← hpo, ← hpcc] at CW k0 k1 k2 f0 f1
      have hkp : k < pl := hlt
      have hka : k < al := by have := NA.out; have := NP.out; have := HG.out.la; omega
      have GN := Lib.hid (blk_in K1.out HB.out)
      have GS := Lib.hid (blk_in J1.out HB.out)
      subst hpa
      subst haa
      clear hpk hak hoP hoA hpc e1 e2 hwt hpt ks fs hul hvl2 hpi hpo hpcc
      have CK := Lib.hid (fun (W : World) (hw : Below wr.heap.size wr W) => CL.out W k (hbw.trans (hw.mono hbw.size)) HG.out (by have := NP.out; omega))
      clear hbw
      obtain ⟨pt, hpt⟩ : ∃ z, z = portK n s k := ⟨_, rfl⟩
      rw [← hpt] at CW
      clear hpt
      obtain ⟨n0, n1⟩ := cells2 GN.out; obtain ⟨s0, s1, s2, s3⟩ := cells4s GS.out; have nl := lt_of GN.out; have sl := lt_of GS.out
      by_cases h2 : wantK n s k = 2
      case neg =>
        have HBK := Lib.hid (block_no h2)
        have d2 : (wantK n s k != 2) = true := by simpa using h2
        obtain ⟨wt, hwt⟩ : ∃ z, z = wantK n s k := ⟨_, rfl⟩
        rw [← hwt] at CW d2
        clear hwt h2
        go_upto_region 7 with fail
        go_region_held3 (fun w' => w'.cell? ⟨w.heap.size, 0, none⟩ = some (.slice (some ⟨gb, go, none⟩) pl pcap) ∧ w'.cell? ⟨w.heap.size + 1, 0, none⟩ = some (.slice (some ⟨ab, ao, none⟩) al ac) ∧ w'.cell? ⟨gb, go + k * 3, none⟩ = some (.int .i64 pi) ∧ w'.cell? ⟨gb, go + k * 3 + 1, none⟩ = some (.int .i64 po) ∧ w'.cell? ⟨gb, go + k * 3 + 2, none⟩ = some (.slice ua ul uc) ∧ w'.cell? ⟨ab, ao + k * 2, none⟩ = some (.int .i64 pc) ∧ w'.cell? ⟨ab, ao + k * 2 + 1, none⟩ = some (.slice va2 vl2 vc2)) (go_keep) (first | (go_at_call 103; refine (CW.out _ (by first | with_reducible exact Below.refl _ _ | with_reducible exact (Below.refl _ _).drew)).mono ?_; rintro e w8 ⟨rfl, hb1⟩; have HC1 := Lib.hid (show Below wr.heap.size wr w8 by first | with_reducible exact hb1 | with_reducible exact cr_d hb1); have K5 := Lib.hid (blk_in GN.out HC1.out); have J5 := Lib.hid (blk_in GS.out HC1.out); obtain ⟨n0', n1'⟩ := cells2 K5.out; obtain ⟨s0', s1', s2', s3'⟩ := cells4s J5.out; have nl' := lt_of K5.out; have sl' := lt_of J5.out; have k0' := (HC1.out.cell (p := ⟨gb, go + k * 3, none⟩) hgb).trans k0; have k1' := (HC1.out.cell (p := ⟨gb, go + k * 3 + 1, none⟩) hgb).trans k1; have k2' := (HC1.out.cell (p := ⟨gb, go + k * 3 + 2, none⟩) hgb).trans k2; have f0' := (HC1.out.cell (p := ⟨ab, ao + k * 2, none⟩) hab).trans f0; have f1' := (HC1.out.cell (p := ⟨ab, ao + k * 2 + 1, none⟩) hab).trans f1; clear hb1))
        all_goals
          go_wp2_with (first | (go_at_call 104; refine (CK.out _ (by first | with_reducible exact HC1.out | with_reducible exact HC1.out.drew)).mono ?_; rintro e w4 ⟨rfl, hb4⟩; have HC4 := Lib.hid (show Below wr.heap.size wr w4 by first | with_reducible exact HC1.out.trans (hb4.mono HC1.out.size) | with_reducible exact HC1.out.drew.trans (hb4.mono HC1.out.drew.size)); clear n0' n1' s0' s1' s2' s3' nl' sl'; have K6 := Lib.hid (blk_in GN.out HC4.out); have J6 := Lib.hid (blk_in GS.out HC4.out); obtain ⟨n0', n1'⟩ := cells2 K6.out; obtain ⟨s0', s1', s2', s3'⟩ := cells4s J6.out; have nl' := lt_of K6.out; have sl' := lt_of J6.out; have HL4 := Lib.hid (HO.out.below HC4.out); have HB4 := Lib.hid (HB.out.trans (HC4.out.mono HB.out.size)); have hs4 := HB4.out.size; clear hb4) | (at_builtin; refine wpList_append_own_at _ rfl _ _ 46 rfl w1.heap.size 3 i0 (.int .i64 0) 1 8 Try.underlying46 hi hz0 hz1 hz2 rfl (by decide) _ _ _ rfl (World.ownsRow.alloc HL4.out _) ⟨w4.heap.size, 0, none⟩ 1 1 [.int .i64 (-1)] rfl rfl (one_src _ _) (one_one _) ?c3 ?c4 ?c5 ?_))
          case c3 => unfold maxLen; simp; omega
          case c4 => simp; omega
          case c5 => simp; omega
          intro v' w5 hown hgrow _ hat
          rw [show k + 1 = ((List.range k).map (blockK n s)).length + 1 by simp] at hown
          have HR2 := Lib.hid (app_rel HB4.out hs4 (Nat.le_refl _) HL4.out hown hgrow)
          clear hown hgrow hat
          go_wp2_with fail
          go_roundw
          case rel => exact ⟨k + 1, by omega, by go_num, Lib.hid (by rw [blkS_step, HBK.out]; exact HR2.out.1), Lib.hid HR2.out.2⟩
          case measure => simp [intOf]; omega
      obtain ⟨j, j1, j2, _⟩ := HG.out.link (k := k) (by have := NP.out; omega) (.inl h2)
      obtain ⟨y, hy⟩ : ∃ y, s.queues[j]? = some y := ⟨_, List.getElem?_eq_getElem (by rw [HG.out.lq]; exact j2)⟩
      obtain ⟨qb, qo, cq, hqa, hqb, q0, fs⟩ := (HQ.out.below (HB1.out.trans (HB.out.mono HB1.out.size))).atb hy
      obtain ⟨va, vc, rfl⟩ := fs.shape
      obtain ⟨vl, hvl⟩ : ∃ q, q = y.length := ⟨_, rfl⟩
      rw [← hvl] at q0
      have hjq : j < ql := HJQ.out j j2
      have HBK := Lib.hid (show blockK n s k = if vl = 0 then (j : Int) else -1 by unfold blockK; rw [j1]; unfold rowAt; rw [Int.toNat_natCast, getD_at hy, ← hvl]; by_cases q : vl = 0 <;> simp [q, h2])
      subst hqa
      rw [h2] at CW
      rw [j1] at CK
      clear h2 j1 j2 hy fs hvl
      by_cases hv0 : vl = 0
      · have dv : decide ((vl : Int) > 0) = false := decide_eq_false (by omega)
        have dv2 : decide (0 < (vl : Int)) = false := decide_eq_false (by omega)
        have dv3 : decide (0 < vl) = false := decide_eq_false (by omega)
        have dv4 : ¬ 0 < vl := by omega
        rw [if_pos hv0] at HBK
        go_upto_region 7 with fail
        go_region_held3 (fun w' => w'.cell? ⟨w.heap.size, 0, none⟩ = some (.slice (some ⟨gb, go, none⟩) pl pcap) ∧ w'.cell? ⟨w.heap.size + 1, 0, none⟩ = some (.slice (some ⟨ab, ao, none⟩) al ac) ∧ w'.cell? ⟨gb, go + k * 3, none⟩ = some (.int .i64 pi) ∧ w'.cell? ⟨gb, go + k * 3 + 1, none⟩ = some (.int .i64 po) ∧ w'.cell? ⟨gb, go + k * 3 + 2, none⟩ = some (.slice ua ul uc) ∧ w'.cell? ⟨ab, ao + k * 2, none⟩ = some (.int .i64 pc) ∧ w'.cell? ⟨ab, ao + k * 2 + 1, none⟩ = some (.slice va2 vl2 vc2)) (go_keep) (first | (go_at_call 103; refine (CW.out _ (by first | with_reducible exact Below.refl _ _ | with_reducible exact (Below.refl _ _).drew)).mono ?_; rintro e w8 ⟨rfl, hb1⟩; have HC1 := Lib.hid (show Below wr.heap.size wr w8 by first | with_reducible exact hb1 | with_reducible exact cr_d hb1); have K5 := Lib.hid (blk_in GN.out HC1.out); have J5 := Lib.hid (blk_in GS.out HC1.out); obtain ⟨n0', n1'⟩ := cells2 K5.out; obtain ⟨s0', s1', s2', s3'⟩ := cells4s J5.out; have nl' := lt_of K5.out; have sl' := lt_of J5.out; have k0' := (HC1.out.cell (p := ⟨gb, go + k * 3, none⟩) hgb).trans k0; have k1' := (HC1.out.cell (p := ⟨gb, go + k * 3 + 1, none⟩) hgb).trans k1; have k2' := (HC1.out.cell (p := ⟨gb, go + k * 3 + 2, none⟩) hgb).trans k2; have f0' := (HC1.out.cell (p := ⟨ab, ao + k * 2, none⟩) hab).trans f0; have f1' := (HC1.out.cell (p := ⟨ab, ao + k * 2 + 1, none⟩) hab).trans f1; clear hb1))
        all_goals
          go_wp2_with (first | (go_at_call 104; refine (CK.out _ (by first | with_reducible exact HC1.out | with_reducible exact HC1.out.drew)).mono ?_; rintro e w4 ⟨rfl, hb4⟩; have HC4 := Lib.hid (show Below wr.heap.size wr w4 by first | with_reducible exact HC1.out.trans (hb4.mono HC1.out.size) | with_reducible exact HC1.out.drew.trans (hb4.mono HC1.out.drew.size)); clear n0' n1' s0' s1' s2' s3' nl' sl'; have K6 := Lib.hid (blk_in GN.out HC4.out); have J6 := Lib.hid (blk_in GS.out HC4.out); obtain ⟨n0', n1'⟩ := cells2 K6.out; obtain ⟨s0', s1', s2', s3'⟩ := cells4s J6.out; have nl' := lt_of K6.out; have sl' := lt_of J6.out; have HL4 := Lib.hid (HO.out.below HC4.out); have HB4 := Lib.hid (HB.out.trans (HC4.out.mono HB.out.size)); have hs4 := HB4.out.size; have q0' := (HC4.out.cell (p := ⟨qb, qo + j, none⟩) hqb).trans q0; have hqb4 : qb < w4.heap.size := Nat.lt_of_lt_of_le hqb HC4.out.size; clear hb4) | (at_builtin; refine wpList_append_own_at _ rfl _ _ 46 rfl w1.heap.size 3 i0 (.int .i64 0) 1 8 Try.underlying46 hi hz0 hz1 hz2 rfl (by decide) _ _ _ rfl (World.ownsRow.alloc HL4.out _) ⟨w4.heap.size, 0, none⟩ 1 1 [.int .i64 (j : Int)] rfl rfl (one_src _ _) (one_one _) ?c3 ?c4 ?c5 ?_))
          case c3 => unfold maxLen; simp; omega
          case c4 => simp; omega
          case c5 => simp; omega
          intro v' w5 hown hgrow _ hat
          rw [show k + 1 = ((List.range k).map (blockK n s)).length + 1 by simp] at hown
          have HR2 := Lib.hid (app_rel HB4.out hs4 (Nat.le_refl _) HL4.out hown hgrow)
          clear hown hgrow hat
          go_wp2_with fail
          go_roundw
          case rel => exact ⟨k + 1, by omega, by go_num, Lib.hid (by rw [blkS_step, HBK.out]; exact HR2.out.1), Lib.hid HR2.out.2⟩
          case measure => simp [intOf]; omega
      · have dv : decide ((vl : Int) > 0) = true := decide_eq_true (by omega)
        have dv2 : decide (0 < (vl : Int)) = true := decide_eq_true (by omega)
        have dv3 : decide (0 < vl) = true := decide_eq_true (by omega)
        have dv4 : 0 < vl := by omega
        rw [if_neg hv0] at HBK
        go_upto_region 7 with fail
        go_region_held3 (fun w' => w'.cell? ⟨w.heap.size, 0, none⟩ = some (.slice (some ⟨gb, go, none⟩) pl pcap) ∧ w'.cell? ⟨w.heap.size + 1, 0, none⟩ = some (.slice (some ⟨ab, ao, none⟩) al ac) ∧ w'.cell? ⟨gb, go + k * 3, none⟩ = some (.int .i64 pi) ∧ w'.cell? ⟨gb, go + k * 3 + 1, none⟩ = some (.int .i64 po) ∧ w'.cell? ⟨gb, go + k * 3 + 2, none⟩ = some (.slice ua ul uc) ∧ w'.cell? ⟨ab, ao + k * 2, none⟩ = some (.int .i64 pc) ∧ w'.cell? ⟨ab, ao + k * 2 + 1, none⟩ = some (.slice va2 vl2 vc2)) (go_keep) (first | (go_at_call 103; refine (CW.out _ (by first | with_reducible exact Below.refl _ _ | with_reducible exact (Below.refl _ _).drew)).mono ?_; rintro e w8 ⟨rfl, hb1⟩; have HC1 := Lib.hid (show Below wr.heap.size wr w8 by first | with_reducible exact hb1 | with_reducible exact cr_d hb1); have K5 := Lib.hid (blk_in GN.out HC1.out); have J5 := Lib.hid (blk_in GS.out HC1.out); obtain ⟨n0', n1'⟩ := cells2 K5.out; obtain ⟨s0', s1', s2', s3'⟩ := cells4s J5.out; have nl' := lt_of K5.out; have sl' := lt_of J5.out; have k0' := (HC1.out.cell (p := ⟨gb, go + k * 3, none⟩) hgb).trans k0; have k1' := (HC1.out.cell (p := ⟨gb, go + k * 3 + 1, none⟩) hgb).trans k1; have k2' := (HC1.out.cell (p := ⟨gb, go + k * 3 + 2, none⟩) hgb).trans k2; have f0' := (HC1.out.cell (p := ⟨ab, ao + k * 2, none⟩) hab).trans f0; have f1' := (HC1.out.cell (p := ⟨ab, ao + k * 2 + 1, none⟩) hab).trans f1; clear hb1))
        all_goals
          go_wp2_with (first | (go_at_call 104; refine (CK.out _ (by first | with_reducible exact HC1.out | with_reducible exact HC1.out.drew)).mono ?_; rintro e w4 ⟨rfl, hb4⟩; have HC4 := Lib.hid (show Below wr.heap.size wr w4 by first | with_reducible exact HC1.out.trans (hb4.mono HC1.out.size) | with_reducible exact HC1.out.drew.trans (hb4.mono HC1.out.drew.size)); clear n0' n1' s0' s1' s2' s3' nl' sl'; have K6 := Lib.hid (blk_in GN.out HC4.out); have J6 := Lib.hid (blk_in GS.out HC4.out); obtain ⟨n0', n1'⟩ := cells2 K6.out; obtain ⟨s0', s1', s2', s3'⟩ := cells4s J6.out; have nl' := lt_of K6.out; have sl' := lt_of J6.out; have HL4 := Lib.hid (HO.out.below HC4.out); have HB4 := Lib.hid (HB.out.trans (HC4.out.mono HB.out.size)); have hs4 := HB4.out.size; have q0' := (HC4.out.cell (p := ⟨qb, qo + j, none⟩) hqb).trans q0; have hqb4 : qb < w4.heap.size := Nat.lt_of_lt_of_le hqb HC4.out.size; clear hb4) | (at_builtin; refine wpList_append_own_at _ rfl _ _ 46 rfl w1.heap.size 3 i0 (.int .i64 0) 1 8 Try.underlying46 hi hz0 hz1 hz2 rfl (by decide) _ _ _ rfl (World.ownsRow.alloc HL4.out _) ⟨w4.heap.size, 0, none⟩ 1 1 [.int .i64 (-1)] rfl rfl (one_src _ _) (one_one _) ?c3 ?c4 ?c5 ?_))
          case c3 => unfold maxLen; simp; omega
          case c4 => simp; omega
          case c5 => simp; omega
          intro v' w5 hown hgrow _ hat
          rw [show k + 1 = ((List.range k).map (blockK n s)).length + 1 by simp] at hown
          have HR2 := Lib.hid (app_rel HB4.out hs4 (Nat.le_refl _) HL4.out hown hgrow)
          clear hown hgrow hat
          go_wp2_with fail
          go_roundw
          case rel => exact ⟨k + 1, by omega, by go_num, Lib.hid (by rw [blkS_step, HBK.out]; exact HR2.out.1), Lib.hid HR2.out.2⟩
          case measure => simp [intOf]; omega

theorem iblocked_w (v : Value) (n : Net) (u : Value) (s : Stt) (w : World) (hv : NetV w v n) (hu : StV w u s) :
    Calls Try.prog 51 #[v, u] w fun e w' => ∃ r, e = .returned r ∧ OwnH w.heap.size w'.heap.size w' r (blockedOnR0 n s) ∧ Below w.heap.size w w' := iblocked_any v u n s w hv hu
theorem sblocked_w (v : Value) (n : Net) (u : Value) (s : Stt) (w : World) (hv : NetV w v n) (hu : StV w u s) :
    Calls Try.prog 50 #[v, u] w fun e w' => ∃ r, e = .returned r ∧ OwnH w.heap.size w'.heap.size w' r (blockedOnR0 n s) ∧ Below w.heap.size w w' := sblocked_any v u n s w hv hu
end Go.Proofs.Ytjphamgkigekkaa
