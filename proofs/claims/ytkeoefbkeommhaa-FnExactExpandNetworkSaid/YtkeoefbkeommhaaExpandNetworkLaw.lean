/-
  ExpandNetwork of the model; the walk of the law FnExactExpandNetwork: it answers true and changes nothing that was there.
-/
import Derived.Test.YtkeoefbkeommhaaExP
import Derived.Test.YtkeoefbkeommhaaLawKit
import Derived.Deep.Cut
import Derived.Deep.RegionHeld3
namespace Go.Proofs.Ytkeoefbkeommhaa
open Go.RowKit


theorem mid_iff {n : Net} (h : okN n = true) {l : Lnk} (hl : l ∈ n.links) : isMidB l = true ↔ (0 ≤ l.frm ∧ 0 ≤ l.to) := by
  unfold isMidB
  obtain ⟨a, b⟩ := frm_of h hl
  constructor
  · intro q
    rw [Bool.and_eq_true] at q
    refine ⟨?_, ?_⟩
    · rcases a with ⟨e, _⟩ | ⟨_, e, _⟩
      · rw [decide_eq_true e] at q; cases q.1
      · exact e
    · rcases b with ⟨e, _⟩ | ⟨_, e, _⟩
      · rw [decide_eq_true e] at q; cases q.2
      · exact e
  · intro q
    have e1 : ¬ l.src = outE := fun e => by have : l.frm = -1 := congrArg Prod.fst e; omega
    have e2 : ¬ l.tgt = outE := fun e => by have : l.to = -1 := congrArg Prod.fst e; omega
    rw [decide_eq_false e1, decide_eq_false e2]; rfl
theorem ren_mid {b : Int} {l : Lnk} (h0 : 0 ≤ l.frm) (h2 : 0 ≤ l.to) : renL (fun x => b + x) l = ⟨b + l.frm, l.out, b + l.to, l.inn, l.tok⟩ := by
  unfold renL
  have e1 : ¬ l.src = outE := fun e => by have : l.frm = -1 := congrArg Prod.fst e; omega
  have e2 : ¬ l.tgt = outE := fun e => by have : l.to = -1 := congrArg Prod.fst e; omega
  rw [if_neg e1, if_neg e2]
theorem filter_at {p : Lnk → Bool} {ls : List Lnk} {j : Nat} {x : Lnk} (hx : ls[j]? = some x) (hp : p x = true) : (ls.filter p)[((ls.take j).filter p).length]? = some x := by
  have hj := List.getElem?_eq_some_iff.1 hx
  have e : ls.filter p = (ls.take j).filter p ++ (x :: (ls.drop (j + 1)).filter p) := by
    have q := List.take_append_drop j ls
    rw [List.drop_eq_getElem_cons hj.1, hj.2] at q
    have q2 := congrArg (List.filter p) q
    rw [List.filter_append, List.filter_cons_of_pos hp] at q2
    exact q2.symm
  rw [e, List.getElem?_append_right (Nat.le_refl _), Nat.sub_self]; rfl
theorem expL_mid {n m : Net} {k j c : Nat} {x : Lnk} (h : templB n (k : Int) m = true) (hx : m.links[j]? = some x) (hm : isMidB x = true) (hc : c = n.links.length + ((m.links.take j).filter isMidB).length) : (expL n k m)[c]? = some (renL (fun x => baseI n + x) x) := by
  obtain ⟨h1, h2, h3, _⟩ := templ_parts h
  have hb : 0 ≤ baseI n := by unfold baseI; omega
  subst hc
  unfold expL
  rw [List.getElem?_append_right (by rw [List.length_map]; omega), List.length_map, Nat.add_sub_cancel_left, ptN_eq hb h2, List.getElem?_map, show (innL m)[((m.links.take j).filter isMidB).length]? = some x from filter_at hx hm]
  rfl
theorem expL_len {n m : Net} {k : Nat} (h : templB n (k : Int) m = true) : (expL n k m).length = n.links.length + (m.links.filter isMidB).length := by
  obtain ⟨h1, h2, h3, _⟩ := templ_parts h
  have hb : 0 ≤ baseI n := by unfold baseI; omega
  unfold expL
  rw [List.length_append, List.length_map, ptN_eq hb h2, List.length_map]; rfl

set_option maxRecDepth 100000 in
set_option maxHeartbeats 16000000 in
theorem sexpnet_any (v : Value) (n : Net) (k : Int) (u : Value) (m : Net) (w : World) (h : NetV w v n) (hwk : (Lit.int .i64 k).wf = true) (h2 : NetV w u m) :
    Calls Try.prog 26 #[v, .int .i64 k, u] w fun e w' => ∃ r, e = .returned (.tuple #[r, .bool (expB n k m)]) ∧ NetR w.heap.size w'.heap.size w' r (expandNetworkR0 n k m) ∧ Below w.heap.size w w' := by
  have CT := Lib.hid (fun (W : World) (hw : Below w.heap.size w W) => stempl_any v n k u m W (h.below hw) hwk (h2.below hw))
  have CI := Lib.hid (fun (W : World) (hw : Below w.heap.size w W) (hok : okN m = true) => soutI_any u m W (h2.below hw) hok)
  have CO := Lib.hid (fun (W : World) (hw : Below w.heap.size w W) (hok : okN m = true) => soutO_any u m W (h2.below hw) hok)
  have HNV := Lib.hid h
  have HMV := Lib.hid h2
  obtain ⟨pv, lv, rfl, hp, hl⟩ := h
  obtain ⟨qv, mv, rfl, hq, hm2⟩ := h2
  have LP := hp.len
  have HQ := Lib.hid hq
  have HP := Lib.hid hp
  have HL := Lib.hid hl
  have HM := Lib.hid hm2
  have LL := hl.len
  have LQ := hq.len
  have LM := hm2.len
  obtain ⟨la, lcap, rfl⟩ := hl.shape
  obtain ⟨pa, pcap, rfl⟩ := hp.shape
  obtain ⟨ma, mcap, rfl⟩ := hm2.shape
  obtain ⟨qa, qcap, rfl⟩ := hq.shape
  obtain ⟨pm, hpm⟩ : ∃ z, z = n.progs.length := ⟨_, rfl⟩
  obtain ⟨ll, hll⟩ : ∃ z, z = n.links.length := ⟨_, rfl⟩
  obtain ⟨qm, hqm⟩ : ∃ z, z = m.progs.length := ⟨_, rfl⟩
  obtain ⟨ml, hml⟩ : ∃ z, z = m.links.length := ⟨_, rfl⟩
  rw [← hpm, ← hll] at CT HNV ⊢
  rw [← hqm, ← hml] at CT CI CO HMV ⊢
  rw [← hpm] at LP
  rw [← hqm] at HQ LQ
  rw [← hpm] at HP
  rw [← hll] at HL LL
  rw [← hml] at HM LM
  have NP := Lib.hid hpm
  have NQ := Lib.hid hqm
  have NL := Lib.hid hll
  have NM := Lib.hid hml
  clear hp hl hq hm2 hpm hll hqm hml
  obtain ⟨R0, hR0⟩ : ∃ R, R = expandNetworkR0 n k m := ⟨_, rfl⟩
  obtain ⟨R1, hR1⟩ : ∃ R, R = expB n k m := ⟨_, rfl⟩
  rw [← hR0, ← hR1]
  have HR0 := Lib.hid hR0
  have HR1 := Lib.hid hR1
  clear hR0 hR1
  have HB3 := Lib.hid ((((Below.refl w.heap.size w).al (.cells #[.slice pa pm pcap, .slice la ll lcap] 31)).al (.cells #[.slice qa qm qcap, .slice ma ml mcap] 31)).al (.cells #[.slice none 0 0, .slice none 0 0] 31))
  have G3 := Lib.hid (al_keep (o := (.cells #[.slice none 0 0, .slice none 0 0] 31)) (hp21 w (.cells #[.slice pa pm pcap, .slice la ll lcap] 31) (.cells #[.slice qa qm qcap, .slice ma ml mcap] 31)))
  have M3 := Lib.hid (al_keep (o := (.cells #[.slice none 0 0, .slice none 0 0] 31)) (hp2 w (.cells #[.slice pa pm pcap, .slice la ll lcap] 31) (.cells #[.slice qa qm qcap, .slice ma ml mcap] 31)))
  have J3 := Lib.hid (show (((w.alloc (.cells #[.slice pa pm pcap, .slice la ll lcap] 31)).alloc (.cells #[.slice qa qm qcap, .slice ma ml mcap] 31)).alloc (.cells #[.slice none 0 0, .slice none 0 0] 31)).heap[w.heap.size + 1 + 1]? = some (.cells #[.slice none 0 0, .slice none 0 0] 31) from al_at (by simp))
  obtain ⟨k0, k1⟩ := cells2 G3.out
  have gl := lt_of G3.out
  obtain ⟨m0, m1⟩ := cells2 M3.out
  have ml' := lt_of M3.out
  obtain ⟨r0, r1⟩ := cells2 J3.out
  have rl := lt_of J3.out
  have rz0 := fr_of J3.out 0
  have rz1 := fr_of J3.out 1
  cases ht : templB n k m with
  | false =>
    have HF := Lib.hid (HR1.out.trans (expB_no ht))
    have HE := Lib.hid (HR0.out.trans (exp_no (expB_no ht)))
    rw [ht] at CT
    clear ht
    obtain rfl := HE.out
    obtain rfl := HF.out
    go_enter Try.func26, Try.ntmps26
    go_wp2_with (go_at_call 24; (with_reducible refine (CT.out _ HB3.out).mono ?_); rintro e w4 ⟨rfl, hb4⟩; have HB4 := Lib.hid (HB3.out.trans (hb4.mono HB3.out.size)); have G4 := Lib.hid (blk_in G3.out hb4); have M4 := Lib.hid (blk_in M3.out hb4); have J4 := Lib.hid (blk_in J3.out hb4); clear k0 k1 gl m0 m1 ml' r0 r1 rl rz0 rz1; obtain ⟨k0, k1⟩ := cells2 G4.out; have gl := lt_of G4.out; obtain ⟨m0, m1⟩ := cells2 M4.out; have ml' := lt_of M4.out; obtain ⟨r0, r1⟩ := cells2 J4.out; have rl := lt_of J4.out; have rz0 := fr_of J4.out 0; have rz1 := fr_of J4.out 1; clear hb4)
    refine bodyPost_ret (v := .tuple #[.agg #[.slice none 0 0, .slice none 0 0], .bool false]) (by simp [results, Try.results26, go_sem, r0, r1]) rfl ⟨_, rfl, netR_nil _ _ _, ?_⟩
    first | exact HB4.out | exact (HB4.out.setCell (by simp; omega) _).setCell (by simp; omega) _
  | true =>
    rw [ht] at CT
    have hpt := templ_parts ht
    have HOM := Lib.hid hpt.2.1
    have HOK := Lib.hid hpt.1
    have hk := hpt.2.2.1
    obtain ⟨kk, rfl⟩ : ∃ kk : Nat, k = kk := ⟨k.toNat, by omega⟩
    have HT := Lib.hid ht
    have hkm : kk < pm := by have := NP.out; omega
    have hm12 : pm ≤ 12 := by rw [NP.out]; exact (okN_len HOK.out).1
    have hq12 : qm ≤ 12 := by rw [NQ.out]; exact (okN_len HOM.out).1
    have hml30 := (okN_len HOM.out).2.1
    have hll30 := (okN_len HOK.out).2.1
    have hbe : baseI n = (pm : Int) - 1 := by unfold baseI; rw [NP.out]
    have HBE := Lib.hid hbe
    have hwb : wrap64 ((pm : Int) - 1) = (pm : Int) - 1 := IntWalk.wrap64_in _ (by omega)
    have HB1 := Lib.hid (HR1.out.trans (expB_yes ht))
    clear ht hpt hk hbe
    rw [Int.toNat_natCast] at HB1
    obtain ⟨j0, hj, hy0, hy1, hy2⟩ := infoL_parts
    obtain ⟨i0, hi, hz0, hz1, hz2⟩ := infoP_parts
    have TGP := Lib.hid (show (n.progs.eraseIdx kk).length = cntP kk pm by rw [cntP_end (by rw [← NP.out]; exact hkm), ← NP.out])
    go_enter Try.func26, Try.ntmps26
    go_upto_region 6 with (first | (go_at_call 68; (with_reducible refine (CO.out _ HB5.out HOM.out).mono ?_); rintro e w6 ⟨ro, rfl, hro, hb6⟩; have HC6 := Lib.hid hb6; have HB6 := Lib.hid (HB5.out.trans (hb6.mono HB5.out.size)); have HRO := Lib.hid hro; obtain ⟨ua9, uc9, rfl⟩ := hro.shape; have G6 := Lib.hid (blk_in G5.out hb6); have M6 := Lib.hid (blk_in M5.out hb6); have J6 := Lib.hid (blk_in J5.out hb6); clear k0 k1 gl m0 m1 ml' r0 r1 rl rz0 rz1; obtain ⟨k0, k1⟩ := cells2 G6.out; have gl := lt_of G6.out; obtain ⟨m0, m1⟩ := cells2 M6.out; have ml' := lt_of M6.out; obtain ⟨r0, r1⟩ := cells2 J6.out; have rl := lt_of J6.out; have rz0 := fr_of J6.out 0; have rz1 := fr_of J6.out 1; clear hro hb6) | (go_at_call 68; (with_reducible refine (CI.out _ HB4.out HOM.out).mono ?_); rintro e w5 ⟨ri, rfl, hri, hb5⟩; have HC5 := Lib.hid hb5; have HB5 := Lib.hid (HB4.out.trans (hb5.mono HB4.out.size)); have HRI := Lib.hid hri; obtain ⟨ia, ic, rfl⟩ := hri.shape; have G5 := Lib.hid (blk_in G4.out hb5); have M5 := Lib.hid (blk_in M4.out hb5); have J5 := Lib.hid (blk_in J4.out hb5); clear k0 k1 gl m0 m1 ml' r0 r1 rl rz0 rz1; obtain ⟨k0, k1⟩ := cells2 G5.out; have gl := lt_of G5.out; obtain ⟨m0, m1⟩ := cells2 M5.out; have ml' := lt_of M5.out; obtain ⟨r0, r1⟩ := cells2 J5.out; have rl := lt_of J5.out; have rz0 := fr_of J5.out 0; have rz1 := fr_of J5.out 1; clear hri hb5) | (go_at_call 24; (with_reducible refine (CT.out _ HB3.out).mono ?_); rintro e w4 ⟨rfl, hb4⟩; have HB4 := Lib.hid (HB3.out.trans (hb4.mono HB3.out.size)); have G4 := Lib.hid (blk_in G3.out hb4); have M4 := Lib.hid (blk_in M3.out hb4); have J4 := Lib.hid (blk_in J3.out hb4); clear k0 k1 gl m0 m1 ml' r0 r1 rl rz0 rz1; obtain ⟨k0, k1⟩ := cells2 G4.out; have gl := lt_of G4.out; obtain ⟨m0, m1⟩ := cells2 M4.out; have ml' := lt_of M4.out; obtain ⟨r0, r1⟩ := cells2 J4.out; have rl := lt_of J4.out; have rz0 := fr_of J4.out 0; have rz1 := fr_of J4.out 1; clear hb4))
    obtain ⟨ci, hci⟩ : ∃ z, z = (insL m).length := ⟨_, rfl⟩
    obtain ⟨co, hco⟩ : ∃ z, z = (outsL m).length := ⟨_, rfl⟩
    rw [show (m.links.filter isInB).length = ci from hci.symm, show (m.links.filter isOutB).length = co from hco.symm]
    have SI6 := Lib.hid (show SlL w6 (.slice ia ci ic) (insL m) by rw [hci]; exact RowL.slL (HRI.out.below HC6.out) (HC5.out.trans (HC6.out.mono HC5.out.size)) (fun l hl => wf_okN HOM.out l (List.mem_filter.1 hl).1))
    have SO6 := Lib.hid (show SlL w6 (.slice ua9 co uc9) (outsL m) by rw [hco]; exact RowL.slL HRO.out HC6.out (fun l hl => wf_okN HOM.out l (List.mem_filter.1 hl).1))
    have NCci := Lib.hid hci
    have NCco := Lib.hid hco
    clear hci hco HRI HRO CI CO CT
    go_wp2_with fail
    generalize hW : w6.alloc (.cells #[.slice none 0 0, .slice none 0 0] 31) = w7
    have HC7 := Lib.hid (show Below w6.heap.size w6 w7 by rw [← hW]; exact (Below.refl _ _).al _)
    obtain ⟨B, hB⟩ : ∃ B, B = w6.heap.size := ⟨_, rfl⟩
    have HS7 := Lib.hid (show w7.heap[B]? = some (.cells #[.slice none 0 0, .slice none 0 0] 31) by rw [← hW, hB]; exact hp1 _ _)
    rw [← hB]
    have HBE6 := Lib.hid hB
    have HB0 := Lib.hid (show w.heap.size + 3 ≤ B by rw [hB]; have := lt_of J6.out; omega)
    clear hW hB
    have HB7 := Lib.hid (HB6.out.trans (HC7.out.mono HB6.out.size))
    have G7 := Lib.hid (blk_in G6.out HC7.out)
    have M7 := Lib.hid (blk_in M6.out HC7.out)
    have J7 := Lib.hid (blk_in J6.out HC7.out)
    have HBL := Lib.hid (lt_of HS7.out)
    clear k0 k1 gl m0 m1 ml' r0 r1 rl rz0 rz1
    go_loopw [40] (fun i wr => ∃ (j : Nat) (oa : Option Addr) (oc : Nat), j ≤ pm ∧ i = .int .i64 j ∧ Hid (wr.heap[B]? = some (.cells #[.slice oa (cntP kk j) oc, .slice none 0 0] 31)) ∧ Hid (GrowP w7.heap.size (cntP kk j) wr (.slice oa (cntP kk j) oc) (n.progs.eraseIdx kk ++ m.progs)) ∧ Hid (Out B (B + 1) w7 wr)) (fun i _ => pm - (intOf i).toNat)
    case atStart => exact ⟨0, none, 0, Nat.zero_le _, rfl, by rw [show cntP kk 0 = 0 from rfl]; exact HS7, by rw [show cntP kk 0 = 0 from rfl]; exact Lib.hid (GrowP.nil _ _ _), Lib.hid (Out.refl _ _ _)⟩
    case round =>
      obtain ⟨j, oa, oc, hjm, rfl, HS, HG, HO⟩ := hrel
      have HBW := Lib.hid (HO.out.below HB7.out HB7.out.size (by have := HB0.out; omega))
      by_cases hlt : j < pm
      case pos =>
        obtain ⟨x, hx⟩ : ∃ x, (n.progs)[j]? = some x := ⟨_, List.getElem?_eq_getElem (by rw [← NP.out]; exact hlt)⟩
        obtain ⟨gb, go, pcv, rfl, hgb, e0, e1, e2, es⟩ := (HP.out.below HBW.out).atb hx
        have HX := Lib.hid hx
        have HLB := Lib.hid ((ok_small HOK.out).2.1 x (List.mem_of_getElem? hx))
        clear hx
        have ES := Lib.hid es
        obtain ⟨x0, x1, row⟩ := x
        simp only [] at e0 e1 e2 ES HLB
        obtain ⟨ua, uc, rfl⟩ := es.shape
        by_cases hjk : j = kk
        · subst hjk
          have HCN := Lib.hid (cntP_skip j)
          have HC1 := Lib.hid (show Below wr.heap.size wr (wr.alloc (.cells #[.int .i64 x0, .int .i64 x1, .slice ua row.length uc] 79)) from (Below.refl _ _).al _)
          have HS1 := Lib.hid (blk_in HS.out HC1.out)
          have HG1 := Lib.hid (HG.out.below HC1.out)
          have HO1 := Lib.hid (HO.out.belowHi HC1.out)
          rw [← HCN.out] at HS1 HG1
          clear es ES HCN
          go_wp2_with fail
          go_roundw
          case rel => exact ⟨j + 1, oa, oc, by omega, by go_num, HS1, HG1, HO1⟩
          case measure => simp [intOf]; omega
        have CA0 := fun (W : World) (hw : Below wr.heap.size wr W) => sl3prog_any x0 x1 (.slice ua row.length uc) row W (ES.out.below hw) (by have := HLB.out; omega)
        obtain ⟨ul, hul⟩ : ∃ q, q = row.length := ⟨_, rfl⟩
        rw [← hul] at e2 CA0
        clear hul es ES
        obtain ⟨us, lus, ltk, hU1, hU2⟩ := HG.out
        have HU0 := Lib.hid hU1
        have HU2 := Lib.hid hU2
        have HAT := Lib.hid (show (n.progs.eraseIdx kk ++ m.progs)[cntP kk j]? = some _ ∧ cntP kk (j + 1) = cntP kk j + 1 from ⟨by rw [List.getElem?_append_left (List.getElem?_eq_some_iff.1 (cntP_at HX.out hjk).1).1]; exact (cntP_at HX.out hjk).1, (cntP_at HX.out hjk).2⟩)
        obtain ⟨c, hc⟩ : ∃ c, c = cntP kk j := ⟨_, rfl⟩
        have hcj : c ≤ 12 := by rw [hc]; have := cntP_le kk j; omega
        have HC := Lib.hid hc
        rw [← hc] at HU0 HU2 HAT HS lus ltk
        have LTK := Lib.hid ltk
        have HUB := Lib.hid (show ∀ u q, u ∈ us → u.ownBlock = some q → q < wr.heap.size from fun u q hu he => fam_hiI HU2.out u hu q he)
        have HNE := Lib.hid (show some B ≠ (Value.slice oa c oc).ownBlock from fun e => by have := (World.ownsRow.lt HU0.out B e.symm).1; have := HBL.out; omega)
        have hjk1 : (((j : Nat) : Int) != ((kk : Nat) : Int)) = true := by simp; omega
        clear hU1 hU2 ltk hc hjk
        have hz1w : w7.heap.size ≤ wr.heap.size := HO.out.size
        go_upto_region 11 with fail
        generalize hW : wr.alloc (.cells #[.int .i64 x0, .int .i64 x1, .slice ua ul uc] 79) = W1
        have HC1 := Lib.hid (show Below wr.heap.size wr W1 by rw [← hW]; exact (Below.refl _ _).al _)
        obtain ⟨p0, p1, p2⟩ := cells3 (show W1.heap[wr.heap.size]? = _ by rw [← hW]; exact hp1 _ _)
        have pl := lt_of (show W1.heap[wr.heap.size]? = _ by rw [← hW]; exact hp1 _ _)
        clear hW
        have B1 := Lib.hid (blk_in HS.out HC1.out)
        have HU1 := Lib.hid (row_below HU0.out HC1.out)
        obtain ⟨b0, b1⟩ := cells2 B1.out
        have bl := lt_of B1.out
        have bz := fr_of B1.out 0
        have hz1' : w7.heap.size ≤ W1.heap.size := Nat.le_trans hz1w HC1.out.size
        have CA := Lib.hid (fun (W : World) (hw : Below W1.heap.size W1 W) => CA0 W (HC1.out.trans (hw.mono HC1.out.size)))
        clear CA0
        refine wp_open' ?_
        intro K9 hK9
        go_cut [40] from 40 to 55 (fun i wz => ∃ (oa' : Option Addr) (oc' : Nat), i = .int .i64 j ∧ Hid (wz.heap[B]? = some (.cells #[.slice oa' (c + 1) oc', .slice none 0 0] 31)) ∧ Hid (GrowP w7.heap.size (c + 1) wz (.slice oa' (c + 1) oc') (n.progs.eraseIdx kk ++ m.progs)) ∧ Hid (Out B (B + 1) w7 wz))
        case first =>
          go_region_law (first | (refine Go.step_append_lies _ rfl (.tmp 49) (.tmp 52) 28 rfl w7.heap.size 79 i0 (.agg #[.int .i64 0, .int .i64 0, .slice none 0 0]) 3 40 Try.underlying28 hi hz0 hz1 hz2 rfl (by decide) (.slice oa c oc) c (cellsP ((n.progs.eraseIdx kk ++ m.progs).take c) us) rfl (World.ownsRow.alloc (row_below HU1.out hs5.out) _) ⟨W5.heap.size, 0, none⟩ 1 1 [.int .i64 x0, .int .i64 x1, .slice xa row.length xc] rfl rfl (lit_cells W5 #[.int .i64 x0, .int .i64 x1, .slice xa row.length xc] 79) (by intro u hu; simp at hu; rcases hu with rfl | rfl | rfl <;> rfl) (by omega) (by unfold maxLen; omega) (by omega) (by have := hz5; simp; omega) (W5.heap.size + 1) (by simp) ?_; intro g gc w6 hown hgrow hor hglt; have BB := grow_box B5.out hgrow HNE.out; obtain ⟨d0, d1⟩ := cells2 BB; have dz := fr_of BB 0; have dl := lt_of BB; have HOW := Lib.hid hown; have HGR := Lib.hid hgrow; have HB6 := Lib.hid BB; clear hown hgrow hor hglt BB) | (go_simp; go_at_call 60; refine (CA.out _ (by first | with_reducible exact Below.refl _ _ | with_reducible exact (Below.refl _ _).drew)).mono ?_; rintro e W5 ⟨c5, rfl, o5, hb5⟩; have hs5 := Lib.hid (show Below W1.heap.size W1 W5 by first | with_reducible exact hb5 | with_reducible exact cr_d hb5); have O5 := Lib.hid (OwnI.mono (lo' := W1.heap.size) o5 (by first | exact Nat.le_refl _ | simp)); have hz5 : w7.heap.size ≤ W5.heap.size := Nat.le_trans hz1' hs5.out.size; have B5 := Lib.hid (blk_in B1.out hs5.out); obtain ⟨y0, y1⟩ := cells2 B5.out; have yz := fr_of B5.out 0; have yl := lt_of B5.out; obtain ⟨xa, xc, rfl⟩ := O5.out.shape; clear o5 hb5))
          all_goals (
            go_wp2_with fail
            go_meet
            case rel =>
              refine ⟨some ⟨g, 0, none⟩, gc, rfl, Lib.hid (set2_0 HB6.out _), Lib.hid ?_, Lib.hid ?_⟩
              · have F5 := HU2.out.below (HC1.out.trans (hs5.out.mono HC1.out.size))
                have S := GrowP.step (a := ⟨x0, x1, row⟩) (w3 := W5.alloc (.cells #[.int .i64 x0, .int .i64 x1, .slice xa row.length xc] 79)) lus (World.ownsRow.alloc (row_below HU1.out hs5.out) _) (F5.below ((Below.refl _ _).al _)) (O5.out.below ((Below.refl _ _).al _)) (fun u q hu he => Nat.lt_of_lt_of_le (HUB.out u q hu he) HC1.out.size) hz1' HAT.out.1 HOW.out HGR.out
                exact S.out ((Out.refl B (B + 1) w6).setC (p := ⟨B, 0, none⟩) (Nat.le_refl _) (Nat.lt_succ_self _) _) HBL.out
              · exact ((((HO.out.belowHi HC1.out).belowHi hs5.out).al _).grownHi HGR.out (fun q e => (World.ownsRow.lt HU1.out q e).1)).setC (p := ⟨B, 0, none⟩) (Nat.le_refl _) (Nat.lt_succ_self _) _)
        case rest =>
          obtain ⟨oa', oc', rfl, HS', HG', HO'⟩ := hcut
          refine hK9 _ _ ?_
          have hc1 := HAT.out.2
          rw [← hc1] at HS' HG'
          clear hc1
          go_wp2_with fail
          go_roundw
          case rel => exact ⟨j + 1, oa', oc', by omega, by go_num, HS', HG', HO'⟩
          case measure => simp [intOf]; omega
      obtain rfl : pm = j := by omega
      have hmP := TGP.out
      obtain ⟨mP, hmPe⟩ : ∃ z, z = cntP kk pm := ⟨_, rfl⟩
      rw [← hmPe] at HS HG hmP
      have HMP := Lib.hid hmP
      have hmP12 : mP ≤ 12 := by rw [hmPe]; have := cntP_le kk pm; omega
      clear hmPe hmP
      have MR := Lib.hid (HO.out.blk M7.out (.inl (by have := HB0.out; omega)))
      obtain ⟨w8, hw8⟩ : ∃ W, W = wr := ⟨_, rfl⟩
      subst hw8
      have HS8 := Lib.hid HS.out
      have HG8 := Lib.hid HG.out
      have HO8 := Lib.hid HO.out
      obtain ⟨pA, hpA⟩ : ∃ z, z = oa := ⟨_, rfl⟩
      subst hpA
      obtain ⟨pC, hpC⟩ : ∃ z, z = oc := ⟨_, rfl⟩
      subst hpC
      clear HS HG HO HBW
      obtain ⟨m0, m1⟩ := cells2 MR.out
      have ml' := lt_of MR.out
      go_wp2_with fail
      clear m0 m1 ml'
      go_loopw [59] (fun i wr => ∃ (j : Nat) (oa : Option Addr) (oc : Nat), j ≤ qm ∧ i = .int .i64 j ∧ Hid (wr.heap[B]? = some (.cells #[.slice oa (mP + j) oc, .slice none 0 0] 31)) ∧ Hid (GrowP w7.heap.size (mP + j) wr (.slice oa (mP + j) oc) (n.progs.eraseIdx kk ++ m.progs)) ∧ Hid (Out B (B + 1) w7 wr)) (fun i _ => qm - (intOf i).toNat)
      case atStart => exact ⟨0, pA, pC, Nat.zero_le _, rfl, HS8, HG8, HO8⟩
      case round =>
        obtain ⟨j, oa, oc, hjm, rfl, HS, HG, HO⟩ := hrel
        have HBW := Lib.hid (HO.out.below HB7.out HB7.out.size (by have := HB0.out; omega))
        by_cases hlt : j < qm
        case pos =>
          obtain ⟨x, hx⟩ : ∃ x, (m.progs)[j]? = some x := ⟨_, List.getElem?_eq_getElem (by rw [← NQ.out]; exact hlt)⟩
          obtain ⟨gb, go, pcv, rfl, hgb, e0, e1, e2, es⟩ := (HQ.out.below HBW.out).atb hx
          have HX := Lib.hid hx
          have HLB := Lib.hid ((ok_small HOM.out).2.1 x (List.mem_of_getElem? hx))
          clear hx
          have ES := Lib.hid es
          obtain ⟨x0, x1, row⟩ := x
          simp only [] at e0 e1 e2 ES HLB
          obtain ⟨ua, uc, rfl⟩ := es.shape
          have CA0 := fun (W : World) (hw : Below wr.heap.size wr W) => sl3prog_any x0 x1 (.slice ua row.length uc) row W (ES.out.below hw) (by have := HLB.out; omega)
          obtain ⟨ul, hul⟩ : ∃ q, q = row.length := ⟨_, rfl⟩
          rw [← hul] at e2 CA0
          clear hul es ES
          obtain ⟨us, lus, ltk, hU1, hU2⟩ := HG.out
          have HU0 := Lib.hid hU1
          have HU2 := Lib.hid hU2
          have HAT := Lib.hid (show (n.progs.eraseIdx kk ++ m.progs)[mP + j]? = some _ ∧ True from ⟨by rw [List.getElem?_append_right (by rw [HMP.out]; omega), HMP.out, Nat.add_sub_cancel_left]; exact HX.out, trivial⟩)
          obtain ⟨c, hc⟩ : ∃ c, c = mP + j := ⟨_, rfl⟩
          have hcj : c ≤ 24 := by omega
          have HC := Lib.hid hc
          rw [← hc] at HU0 HU2 HAT HS lus ltk
          have LTK := Lib.hid ltk
          have HUB := Lib.hid (show ∀ u q, u ∈ us → u.ownBlock = some q → q < wr.heap.size from fun u q hu he => fam_hiI HU2.out u hu q he)
          have HNE := Lib.hid (show some B ≠ (Value.slice oa c oc).ownBlock from fun e => by have := (World.ownsRow.lt HU0.out B e.symm).1; have := HBL.out; omega)
          clear hU1 hU2 ltk hc
          have hz1w : w7.heap.size ≤ wr.heap.size := HO.out.size
          go_upto_region 16 with fail
          generalize hW : wr.alloc (.cells #[.int .i64 x0, .int .i64 x1, .slice ua ul uc] 79) = W1
          have HC1 := Lib.hid (show Below wr.heap.size wr W1 by rw [← hW]; exact (Below.refl _ _).al _)
          obtain ⟨p0, p1, p2⟩ := cells3 (show W1.heap[wr.heap.size]? = _ by rw [← hW]; exact hp1 _ _)
          have pl := lt_of (show W1.heap[wr.heap.size]? = _ by rw [← hW]; exact hp1 _ _)
          clear hW
          have B1 := Lib.hid (blk_in HS.out HC1.out)
          have HU1 := Lib.hid (row_below HU0.out HC1.out)
          obtain ⟨b0, b1⟩ := cells2 B1.out
          have bl := lt_of B1.out
          have bz := fr_of B1.out 0
          have hz1' : w7.heap.size ≤ W1.heap.size := Nat.le_trans hz1w HC1.out.size
          have CA := Lib.hid (fun (W : World) (hw : Below W1.heap.size W1 W) => CA0 W (HC1.out.trans (hw.mono HC1.out.size)))
          clear CA0
          refine wp_open' ?_
          intro K9 hK9
          go_cut [59] from 59 to 70 (fun i wz => ∃ (oa' : Option Addr) (oc' : Nat), i = .int .i64 j ∧ Hid (wz.heap[B]? = some (.cells #[.slice oa' (c + 1) oc', .slice none 0 0] 31)) ∧ Hid (GrowP w7.heap.size (c + 1) wz (.slice oa' (c + 1) oc') (n.progs.eraseIdx kk ++ m.progs)) ∧ Hid (Out B (B + 1) w7 wz))
          case first =>
            go_region_law (first | (refine Go.step_append_lies _ rfl (.tmp 64) (.tmp 67) 28 rfl w7.heap.size 79 i0 (.agg #[.int .i64 0, .int .i64 0, .slice none 0 0]) 3 40 Try.underlying28 hi hz0 hz1 hz2 rfl (by decide) (.slice oa c oc) c (cellsP ((n.progs.eraseIdx kk ++ m.progs).take c) us) rfl (World.ownsRow.alloc (row_below HU1.out hs5.out) _) ⟨W5.heap.size, 0, none⟩ 1 1 [.int .i64 x0, .int .i64 x1, .slice xa row.length xc] rfl rfl (lit_cells W5 #[.int .i64 x0, .int .i64 x1, .slice xa row.length xc] 79) (by intro u hu; simp at hu; rcases hu with rfl | rfl | rfl <;> rfl) (by omega) (by unfold maxLen; omega) (by omega) (by have := hz5; simp; omega) (W5.heap.size + 1) (by simp) ?_; intro g gc w6 hown hgrow hor hglt; have BB := grow_box B5.out hgrow HNE.out; obtain ⟨d0, d1⟩ := cells2 BB; have dz := fr_of BB 0; have dl := lt_of BB; have HOW := Lib.hid hown; have HGR := Lib.hid hgrow; have HB6 := Lib.hid BB; clear hown hgrow hor hglt BB) | (go_simp; go_at_call 60; refine (CA.out _ (by first | with_reducible exact Below.refl _ _ | with_reducible exact (Below.refl _ _).drew)).mono ?_; rintro e W5 ⟨c5, rfl, o5, hb5⟩; have hs5 := Lib.hid (show Below W1.heap.size W1 W5 by first | with_reducible exact hb5 | with_reducible exact cr_d hb5); have O5 := Lib.hid (OwnI.mono (lo' := W1.heap.size) o5 (by first | exact Nat.le_refl _ | simp)); have hz5 : w7.heap.size ≤ W5.heap.size := Nat.le_trans hz1' hs5.out.size; have B5 := Lib.hid (blk_in B1.out hs5.out); obtain ⟨y0, y1⟩ := cells2 B5.out; have yz := fr_of B5.out 0; have yl := lt_of B5.out; obtain ⟨xa, xc, rfl⟩ := O5.out.shape; clear o5 hb5))
            all_goals (
              go_wp2_with fail
              go_meet
              case rel =>
                refine ⟨some ⟨g, 0, none⟩, gc, rfl, Lib.hid (set2_0 HB6.out _), Lib.hid ?_, Lib.hid ?_⟩
                · have F5 := HU2.out.below (HC1.out.trans (hs5.out.mono HC1.out.size))
                  have S := GrowP.step (a := ⟨x0, x1, row⟩) (w3 := W5.alloc (.cells #[.int .i64 x0, .int .i64 x1, .slice xa row.length xc] 79)) lus (World.ownsRow.alloc (row_below HU1.out hs5.out) _) (F5.below ((Below.refl _ _).al _)) (O5.out.below ((Below.refl _ _).al _)) (fun u q hu he => Nat.lt_of_lt_of_le (HUB.out u q hu he) HC1.out.size) hz1' HAT.out.1 HOW.out HGR.out
                  exact S.out ((Out.refl B (B + 1) w6).setC (p := ⟨B, 0, none⟩) (Nat.le_refl _) (Nat.lt_succ_self _) _) HBL.out
                · exact ((((HO.out.belowHi HC1.out).belowHi hs5.out).al _).grownHi HGR.out (fun q e => (World.ownsRow.lt HU1.out q e).1)).setC (p := ⟨B, 0, none⟩) (Nat.le_refl _) (Nat.lt_succ_self _) _)
          case rest =>
            obtain ⟨oa', oc', rfl, HS', HG', HO'⟩ := hcut
            refine hK9 _ _ ?_
            have hc1 : c + 1 = mP + (j + 1) := by rw [HC.out]; rfl
            rw [hc1] at HS' HG'
            clear hc1
            go_wp2_with fail
            go_roundw
            case rel => exact ⟨j + 1, oa', oc', by omega, by go_num, HS', HG', HO'⟩
            case measure => simp [intOf]; omega
        obtain rfl : qm = j := by omega
        have hpe : (n.progs.eraseIdx kk ++ m.progs).length = mP + qm := by rw [List.length_append, HMP.out, ← NQ.out]
        have HPR := Lib.hid (HG.out.done hpe)
        have HPE := Lib.hid hpe
        clear hpe
        obtain ⟨mQ, hmQ⟩ : ∃ z, z = mP + qm := ⟨_, rfl⟩
        have hmQ24 : mQ ≤ 24 := by omega
        rw [← hmQ] at HS HPR HPE
        clear hmQ
        have GR := Lib.hid (HO.out.blk G7.out (.inl (by have := HB0.out; omega)))
        have MQ := Lib.hid (HO.out.blk M7.out (.inl (by have := HB0.out; omega)))
        have JQ := Lib.hid (HO.out.blk J7.out (.inl (by have := HB0.out; omega)))
        obtain ⟨w9, hw9⟩ : ∃ W, W = wr := ⟨_, rfl⟩
        subst hw9
        have HS9 := Lib.hid HS.out
        have HOQ := Lib.hid HO.out
        have HBw9 := Lib.hid HBW.out
        have HBL9 := Lib.hid (lt_of HS.out)
        have HCQ := Lib.hid (HO.out.below HC7.out HC7.out.size (by have := HBE6.out; omega))
        obtain ⟨pB, hpB⟩ : ∃ z, z = oa := ⟨_, rfl⟩
        subst hpB
        obtain ⟨pD, hpD⟩ : ∃ z, z = oc := ⟨_, rfl⟩
        subst hpD
        have hll : ll ≤ 30 := by rw [NL.out]; exact hll30
        have hml : ml ≤ 30 := by rw [NM.out]; exact hml30
        clear HS HG HO HBW hwb hll30 hml30
        obtain ⟨XS, hXS⟩ : ∃ z, z = expL n kk m := ⟨_, rfl⟩
        have HXS := Lib.hid hXS
        clear hXS
        obtain ⟨k0, k1⟩ := cells2 GR.out
        have gl := lt_of GR.out
        go_wp2_with fail
        clear k0 k1 gl
        go_loopw [74] (fun i wr => ∃ (j : Nat) (oa : Option Addr) (oc : Nat), j ≤ ll ∧ i = .int .i64 j ∧ Hid (wr.heap[B]? = some (.cells #[.slice pB mQ pD, .slice oa j oc] 31)) ∧ Hid (GrowL w9.heap.size j wr (.slice oa j oc) XS) ∧ Hid (Out B (B + 1) w9 wr)) (fun i _ => ll - (intOf i).toNat)
        case atStart => exact ⟨0, none, 0, Nat.zero_le _, rfl, HS9, Lib.hid (GrowL.nil _ _ _), Lib.hid (Out.refl _ _ _)⟩
        case round =>
          obtain ⟨j, oa, oc, hjl, rfl, HS, HG, HO⟩ := hrel
          have HBW := Lib.hid (HO.out.below HBw9.out HBw9.out.size (by have := HB0.out; omega))
          have HCW := Lib.hid (HO.out.below HCQ.out HCQ.out.size (by have := HBE6.out; omega))
          by_cases hlt : j < ll
          case pos =>
            obtain ⟨x, hx⟩ : ∃ x, (n.links)[j]? = some x := ⟨_, List.getElem?_eq_getElem (by rw [← NL.out]; exact hlt)⟩
            obtain ⟨gb, go, pcv, rfl, hgb, e0, e1, e2, e3, e4, es⟩ := (HL.out.below HBW.out).atb hx
            have hxm := List.mem_of_getElem? hx
            have HX := Lib.hid hx
            have HLB := Lib.hid (isS_len (tok_isS HOK.out hxm))
            have HXE := ok_ends HOK.out hxm
            clear hx hxm
            have ES := Lib.hid es
            obtain ⟨x0, x1, x2, x3, row⟩ := x
            simp only [] at e0 e1 e2 e3 e4 ES HLB
            have hx0 : -1 ≤ x0 ∧ x0 ≤ 12 := HXE.1.2
            have hx2 : -1 ≤ x2 ∧ x2 ≤ 12 := HXE.2.2
            clear HXE
            obtain ⟨ua, uc, rfl⟩ := es.shape
            have CA0 := fun (W : World) (hw : Below wr.heap.size wr W) => sl3link_any x0 x1 x2 x3 (.slice ua row.length uc) row W (ES.out.below hw) (by have := HLB.out; omega)
            obtain ⟨ul, hul⟩ : ∃ q, q = row.length := ⟨_, rfl⟩
            rw [← hul] at e4 CA0
            clear hul es ES
            have CL0 := Lib.hid (fun (W : World) => sless_any x0 (kk : Int) W (by omega) (by omega))
            have CL2 := Lib.hid (fun (W : World) => sless_any x2 (kk : Int) W (by omega) (by omega))
            have hz1w : w9.heap.size ≤ wr.heap.size := HO.out.size
            go_upto_region 21 with fail
            generalize hW : wr.alloc (.cells #[.int .i64 x0, .int .i64 x1, .int .i64 x2, .int .i64 x3, .slice ua ul uc] 68) = W1
            have HC1 := Lib.hid (show Below wr.heap.size wr W1 by rw [← hW]; exact (Below.refl _ _).al _)
            have X1 := Lib.hid (show W1.heap[wr.heap.size]? = some (.cells #[.int .i64 x0, .int .i64 x1, .int .i64 x2, .int .i64 x3, .slice ua ul uc] 68) by rw [← hW]; exact hp1 _ _)
            clear hW
            obtain ⟨X, hXe⟩ : ∃ z, z = wr.heap.size := ⟨_, rfl⟩
            have HXW := Lib.hid hXe
            rw [← hXe] at X1 ⊢
            clear hXe
            obtain ⟨p0, p1, p2, p3, p4⟩ := cells5 X1.out
            have pl := lt_of X1.out
            have CA := Lib.hid (fun (W : World) (hw : Below W1.heap.size W1 W) => CA0 W (HC1.out.trans (hw.mono HC1.out.size)))
            clear CA0
            go_upto_region 22 with (go_at_call 61; with_reducible refine (CA.out _ (Below.refl _ _)).mono ?_; rintro e W5 ⟨c5, rfl, o5, hb5⟩; have HS15 := Lib.hid hb5; have O5 := Lib.hid o5; have X5 := Lib.hid (blk_in X1.out hb5); obtain ⟨xa, xc, rfl⟩ := o5.shape; clear o5 hb5 p0 p1 p2 p3 p4 pl; obtain ⟨p0, p1, p2, p3, p4⟩ := cells5 X5.out; have pl := lt_of X5.out)
            generalize hW : W5.alloc (.cells #[.int .i64 x0, .int .i64 x1, .int .i64 x2, .int .i64 x3, .slice xa row.length xc] 68) = W6
            have HC6 := Lib.hid (show Below W5.heap.size W5 W6 by rw [← hW]; exact (Below.refl _ _).al _)
            have Y6 := Lib.hid (show W6.heap[W5.heap.size]? = some (.cells #[.int .i64 x0, .int .i64 x1, .int .i64 x2, .int .i64 x3, .slice xa row.length xc] 68) by rw [← hW]; exact hp1 _ _)
            clear hW
            obtain ⟨Y, hYe⟩ : ∃ z, z = W5.heap.size := ⟨_, rfl⟩
            have HYW := Lib.hid hYe
            rw [← hYe] at Y6 ⊢
            clear hYe
            have X6 := Lib.hid (blk_in X5.out HC6.out)
            have HXY : X < Y := by rw [HYW.out]; exact lt_of X5.out
            have HWY : wr.heap.size ≤ Y := by rw [HYW.out]; exact Nat.le_trans HC1.out.size HS15.out.size
            have HR6 := Lib.hid (HC1.out.trans ((HS15.out.trans (HC6.out.mono HS15.out.size)).mono HC1.out.size))
            have O6 := Lib.hid (O5.out.below HC6.out)
            have HOB := Lib.hid (show ∀ q, (Value.slice xa row.length xc).ownBlock = some q → W1.heap.size ≤ q ∧ q < Y from fun q e => by rw [HYW.out]; exact O5.out.lt q e)
            clear p0 p1 p2 p3 p4 pl
            obtain ⟨p0, p1, p2, p3, p4⟩ := cells5 X6.out
            have pl := lt_of X6.out
            obtain ⟨y0, y1, y2, y3, y4⟩ := cells5 Y6.out
            have yl := lt_of Y6.out
            have yz0 := fr_of Y6.out 0
            go_upto_region 23 with (go_at_call 73; with_reducible refine (CL0.out _).mono ?_; rintro e w' ⟨rfl, rfl⟩)
            obtain ⟨L0, hL0⟩ : ∃ z, z = lessI (kk : Int) x0 := ⟨_, rfl⟩
            rw [← hL0]
            have HL0 := Lib.hid hL0.symm
            generalize hW : W6.setCell ⟨Y, 0, none⟩ (.int .i64 L0) = W7
            have Y7 := Lib.hid (show W7.heap[Y]? = some (.cells #[.int .i64 L0, .int .i64 x1, .int .i64 x2, .int .i64 x3, .slice xa row.length xc] 68) by rw [← hW]; exact set5_0 Y6.out _)
            have HO7 := Lib.hid (show Out Y (Y + 1) W6 W7 by rw [← hW]; exact (Out.refl _ _ _).setC (p := ⟨Y, 0, none⟩) (Nat.le_refl _) (Nat.lt_succ_self _) _)
            clear hW p0 p1 p2 p3 p4 pl y0 y1 y2 y3 y4 yl yz0 hL0
            have X7 := Lib.hid (HO7.out.blk X6.out (.inl HXY))
            obtain ⟨p0, p1, p2, p3, p4⟩ := cells5 X7.out
            have pl := lt_of X7.out
            obtain ⟨y0, y1, y2, y3, y4⟩ := cells5 Y7.out
            have yl := lt_of Y7.out
            have yz2 := fr_of Y7.out 2
            go_upto_region 24 with (go_at_call 73; with_reducible refine (CL2.out _).mono ?_; rintro e w' ⟨rfl, rfl⟩)
            obtain ⟨L2, hL2⟩ : ∃ z, z = lessI (kk : Int) x2 := ⟨_, rfl⟩
            rw [← hL2]
            have HL2 := Lib.hid hL2.symm
            generalize hW : W7.setCell ⟨Y, 2, none⟩ (.int .i64 L2) = W8
            have Y8 := Lib.hid (show W8.heap[Y]? = some (.cells #[.int .i64 L0, .int .i64 x1, .int .i64 L2, .int .i64 x3, .slice xa row.length xc] 68) by rw [← hW]; exact set5_2 Y7.out _)
            have HO8 := Lib.hid (show Out Y (Y + 1) W6 W8 by rw [← hW]; exact HO7.out.setC (p := ⟨Y, 2, none⟩) (Nat.le_refl _) (Nat.lt_succ_self _) _)
            clear hW p0 p1 p2 p3 p4 pl y0 y1 y2 y3 y4 yl yz2 hL2
            have X8 := Lib.hid (HO8.out.blk X6.out (.inl HXY))
            obtain ⟨p0, p1, p2, p3, p4⟩ := cells5 X8.out
            have pl := lt_of X8.out
            obtain ⟨y0, y1, y2, y3, y4⟩ := cells5 Y8.out
            have yl := lt_of Y8.out
            have yz0 := fr_of Y8.out 0
            have yz1 := fr_of Y8.out 1
            obtain ⟨F, O, hFO⟩ : ∃ F O, repE kk (grS (baseI n) m) (x0, x1) = (F, O) := ⟨_, _, rfl⟩
            have HFO := Lib.hid hFO
            clear hFO
            go_upto_if 93 with fail
            go_cut [74] from 74 to 136 (fun i wz => i = .int .i64 j ∧ Hid (wz.heap[Y]? = some (.cells #[.int .i64 F, .int .i64 O, .int .i64 L2, .int .i64 x3, .slice xa row.length xc] 68)) ∧ Hid (Out Y (Y + 1) W6 wz))
            case first =>
              by_cases hq : x0 = (kk : Int)
              · obtain ⟨o, ho, hom, hgr⟩ : ∃ o, (outsL m)[(x1).toNat]? = some o ∧ o ∈ m.links ∧ grS (baseI n) m x1 = (baseI n + o.frm, o.out) := by
                  obtain ⟨o, a, b, _, d, _⟩ := grS_at HT.out (List.mem_of_getElem? HX.out) hq
                  exact ⟨o, a, b, d⟩
                have hxo : 0 ≤ x1 := (out_link HT.out (List.mem_of_getElem? HX.out) hq).1
                have HE := Lib.hid (show F = (pm : Int) - 1 + o.frm ∧ O = o.out by
                  have q := HFO.out
                  rw [repE_at hq] at q
                  have q2 := q.symm.trans hgr
                  rw [HBE.out] at q2
                  exact ⟨congrArg Prod.fst q2, congrArg Prod.snd q2⟩)
                have HOE := ok_ends HOM.out hom
                have hil : (x1).toNat < co := by rw [NCco.out]; exact (List.getElem?_eq_some_iff.1 ho).1
                obtain ⟨io, hio⟩ : ∃ q : Nat, x1 = q := ⟨(x1).toNat, by omega⟩
                subst hio
                rw [Int.toNat_natCast] at ho hil
                obtain ⟨o0, o1, o2, o3, orow⟩ := o
                have hoo : -1 ≤ o0 ∧ o0 ≤ 12 := HOE.1.2
                clear hgr hom HOE hxo
                obtain ⟨hbb, hof, _, hsh, hbl, _⟩ := SO6.out.atb ho
                subst hsh
                have hn1 : ¬ hbb = Y := by have := HBE6.out; have := HBL9.out; omega
                have hn2 : ¬ Y = hbb := fun e => hn1 e.symm
                have hn3 : ¬ X = Y := by omega
                have hn4 : ¬ Y = X := by omega
                have HRR := HO8.out.below HR6.out (Nat.le_trans HC1.out.size (Nat.le_trans HS15.out.size HC6.out.size)) HWY
                obtain ⟨b', off', _, heq, _, f0, f1, f2, f3, _⟩ := (SO6.out.below (HCW.out.trans (HRR.mono HCW.out.size))).atb ho
                obtain ⟨rfl, rfl⟩ : hbb = b' ∧ hof = off' := by simpa using heq
                simp only [] at f0 f1 f2 f3
                clear HRR heq hbl ho
                have hw1 : wrap64 ((pm : Int) - 1 + o0) = (pm : Int) - 1 + o0 := IntWalk.wrap64_in _ (by omega)
                have hq1 : (x0 == (kk : Int)) = true := by simp [hq]
                clear hq
                go_wp2_with fail
                go_meet
                case rel =>
                  obtain ⟨rfl, rfl⟩ := HE.out
                  exact ⟨rfl, Lib.hid (set5_1 (set5_0 Y8.out _) _), Lib.hid ((HO8.out.setC (p := ⟨Y, 0, none⟩) (Nat.le_refl _) (Nat.lt_succ_self _) _).setC (p := ⟨Y, 1, none⟩) (Nat.le_refl _) (Nat.lt_succ_self _) _)⟩
              · have HE := Lib.hid (show F = L0 ∧ O = x1 by have q := HFO.out; rw [repE_not hq, behE_less, HL0.out] at q; simpa using ⟨congrArg Prod.fst q.symm, congrArg Prod.snd q.symm⟩)
                have hq1 : (x0 == (kk : Int)) = false := by simp [hq]
                clear hq
                go_wp2_with fail
                go_meet
                case rel =>
                  obtain ⟨rfl, rfl⟩ := HE.out
                  exact ⟨rfl, Y8, HO8⟩
            case rest =>
              rename World => W9
              obtain ⟨rfl, Y9, HO9⟩ := hcut
              clear p0 p1 p2 p3 p4 pl y0 y1 y2 y3 y4 yl yz0 yz1
              have X9 := Lib.hid (HO9.out.blk X6.out (.inl HXY))
              obtain ⟨p0, p1, p2, p3, p4⟩ := cells5 X9.out
              have pl := lt_of X9.out
              obtain ⟨y0, y1, y2, y3, y4⟩ := cells5 Y9.out
              have yl := lt_of Y9.out
              have yz2 := fr_of Y9.out 2
              have yz3 := fr_of Y9.out 3
              obtain ⟨T, I, hTI⟩ : ∃ T I, repE kk (grT (baseI n) m) (x2, x3) = (T, I) := ⟨_, _, rfl⟩
              have HTI := Lib.hid hTI
              clear hTI
              go_upto_if 113 with fail
              go_cut [74] from 74 to 136 (fun i wz => i = .int .i64 j ∧ Hid (wz.heap[Y]? = some (.cells #[.int .i64 F, .int .i64 O, .int .i64 T, .int .i64 I, .slice xa row.length xc] 68)) ∧ Hid (Out Y (Y + 1) W6 wz))
              case first =>
                by_cases hq : x2 = (kk : Int)
                · obtain ⟨o, ho, hom, hgr⟩ : ∃ o, (insL m)[(x3).toNat]? = some o ∧ o ∈ m.links ∧ grT (baseI n) m x3 = (baseI n + o.to, o.inn) := by
                    obtain ⟨o, a, b, _, d, _⟩ := grT_at HT.out (List.mem_of_getElem? HX.out) hq
                    exact ⟨o, a, b, d⟩
                  have hxo : 0 ≤ x3 := (in_link HT.out (List.mem_of_getElem? HX.out) hq).1
                  have HE := Lib.hid (show T = (pm : Int) - 1 + o.to ∧ I = o.inn by
                    have q := HTI.out
                    rw [repE_at hq] at q
                    have q2 := q.symm.trans hgr
                    rw [HBE.out] at q2
                    exact ⟨congrArg Prod.fst q2, congrArg Prod.snd q2⟩)
                  have HOE := ok_ends HOM.out hom
                  have hil : (x3).toNat < ci := by rw [NCci.out]; exact (List.getElem?_eq_some_iff.1 ho).1
                  obtain ⟨io, hio⟩ : ∃ q : Nat, x3 = q := ⟨(x3).toNat, by omega⟩
                  subst hio
                  rw [Int.toNat_natCast] at ho hil
                  obtain ⟨o0, o1, o2, o3, orow⟩ := o
                  have hoo : -1 ≤ o2 ∧ o2 ≤ 12 := HOE.2.2
                  clear hgr hom HOE hxo
                  obtain ⟨hbb, hof, _, hsh, hbl, _⟩ := SI6.out.atb ho
                  subst hsh
                  have hn1 : ¬ hbb = Y := by have := HBE6.out; have := HBL9.out; omega
                  have hn2 : ¬ Y = hbb := fun e => hn1 e.symm
                  have hn3 : ¬ X = Y := by omega
                  have hn4 : ¬ Y = X := by omega
                  have HRR := HO9.out.below HR6.out (Nat.le_trans HC1.out.size (Nat.le_trans HS15.out.size HC6.out.size)) HWY
                  obtain ⟨b', off', _, heq, _, f0, f1, f2, f3, _⟩ := (SI6.out.below (HCW.out.trans (HRR.mono HCW.out.size))).atb ho
                  obtain ⟨rfl, rfl⟩ : hbb = b' ∧ hof = off' := by simpa using heq
                  simp only [] at f0 f1 f2 f3
                  clear HRR heq hbl ho
                  have hw1 : wrap64 ((pm : Int) - 1 + o2) = (pm : Int) - 1 + o2 := IntWalk.wrap64_in _ (by omega)
                  have hq1 : (x2 == (kk : Int)) = true := by simp [hq]
                  clear hq
                  go_wp2_with fail
                  go_meet
                  case rel =>
                    obtain ⟨rfl, rfl⟩ := HE.out
                    exact ⟨rfl, Lib.hid (set5_3 (set5_2 Y9.out _) _), Lib.hid ((HO9.out.setC (p := ⟨Y, 2, none⟩) (Nat.le_refl _) (Nat.lt_succ_self _) _).setC (p := ⟨Y, 3, none⟩) (Nat.le_refl _) (Nat.lt_succ_self _) _)⟩
                · have HE := Lib.hid (show T = L2 ∧ I = x3 by have q := HTI.out; rw [repE_not hq, behE_less, HL2.out] at q; simpa using ⟨congrArg Prod.fst q.symm, congrArg Prod.snd q.symm⟩)
                  have hq1 : (x2 == (kk : Int)) = false := by simp [hq]
                  clear hq
                  go_wp2_with fail
                  go_meet
                  case rel =>
                    obtain ⟨rfl, rfl⟩ := HE.out
                    exact ⟨rfl, Y9, HO9⟩
              case rest =>
                rename World => W10
                obtain ⟨rfl, Y10, HO10⟩ := hcut
                clear p0 p1 p2 p3 p4 pl y0 y1 y2 y3 y4 yl yz2 yz3
                obtain ⟨y0, y1, y2, y3, y4⟩ := cells5 Y10.out
                have yl := lt_of Y10.out
                have HREP := Lib.hid (show repL kk (grS (baseI n) m) (grT (baseI n) m) ⟨x0, x1, x2, x3, row⟩ = ⟨F, O, T, I, row⟩ by
                  unfold repL
                  show (⟨(repE kk (grS (baseI n) m) (x0, x1)).1, (repE kk (grS (baseI n) m) (x0, x1)).2, (repE kk (grT (baseI n) m) (x2, x3)).1, (repE kk (grT (baseI n) m) (x2, x3)).2, row⟩ : Lnk) = _
                  rw [HFO.out, HTI.out])
                have HR10 := Lib.hid (HO10.out.below HR6.out (Nat.le_trans HC1.out.size (Nat.le_trans HS15.out.size HC6.out.size)) HWY)
                have B10 := Lib.hid (blk_in HS.out HR10.out)
                have HAT := Lib.hid (show XS[j]? = some ⟨F, O, T, I, row⟩ by
                  rw [HXS.out]
                  unfold expL
                  rw [List.getElem?_append_left (by rw [List.length_map]; exact (List.getElem?_eq_some_iff.1 HX.out).1), List.getElem?_map, HX.out]
                  exact congrArg some HREP.out)
                obtain ⟨us, lus, ltk, hU1, hU2⟩ := HG.out
                have HU0 := Lib.hid hU1
                have HU2 := Lib.hid hU2
                have HUB := Lib.hid (show ∀ u q, u ∈ us → u.ownBlock = some q → q < wr.heap.size from fun u q hu he => fam_hi HU2.out u hu q he)
                have HNE := Lib.hid (show some B ≠ (Value.slice oa j oc).ownBlock from fun e => by have := (World.ownsRow.lt HU0.out B e.symm).1; have := HBL9.out; omega)
                clear hU1 hU2 ltk
                have O10 := Lib.hid (show Own W1.heap.size W10 (.slice xa row.length xc) row from row_out O6.out HO10.out (fun q e => .inl (HOB.out q e).2))
                obtain ⟨b0, b1⟩ := cells2 B10.out
                have bl := lt_of B10.out
                have bz := fr_of B10.out 1
                have hzw : w9.heap.size ≤ W10.heap.size := Nat.le_trans hz1w HR10.out.size
                have HU10 := Lib.hid (row_below HU0.out HR10.out)
                go_wp2_with (at_builtin; refine Go.wpList_append_lies _ rfl _ _ 29 rfl w9.heap.size 68 j0 (.agg #[.int .i64 0, .int .i64 0, .int .i64 0, .int .i64 0, .slice none 0 0]) 5 56 Try.underlying29 hj hy0 hy1 hy2 rfl (by decide) (.slice oa j oc) j (cellsL (XS.take j) us) rfl (World.ownsRow.alloc HU10.out _) ⟨W10.heap.size, 0, none⟩ 1 1 [.int .i64 F, .int .i64 O, .int .i64 T, .int .i64 I, .slice xa row.length xc] rfl rfl (lit_cells W10 #[.int .i64 F, .int .i64 O, .int .i64 T, .int .i64 I, .slice xa row.length xc] 68) (by intro u hu; simp at hu; rcases hu with rfl | rfl | rfl | rfl | rfl <;> rfl) (by omega) (by unfold maxLen; omega) (by omega) (by simp; exact Nat.le_trans hzw (Nat.le_succ _)) (W10.heap.size + 1) (by simp) ?_; intro g gc w6 hown hgrow hor hglt; have B11 := Lib.hid (grow_box B10.out hgrow HNE.out); have HOW := Lib.hid hown; have HGR := Lib.hid hgrow; obtain ⟨d0, d1'⟩ := cells2 B11.out; have dz := fr_of B11.out 1; have dl := lt_of B11.out; clear hown hgrow hor hglt)
                go_roundw
                case rel =>
                  refine ⟨j + 1, some ⟨g, 0, none⟩, gc, by omega, by go_num, Lib.hid (set2_1 B11.out _), Lib.hid ?_, Lib.hid ?_⟩
                  · have S := GrowL.step (a := ⟨F, O, T, I, row⟩) (w3 := W10.alloc (.cells #[.int .i64 F, .int .i64 O, .int .i64 T, .int .i64 I, .slice xa row.length xc] 68)) lus (World.ownsRow.alloc HU10.out _) ((HU2.out.below HR10.out).below ((Below.refl _ _).al _)) (O10.out.below ((Below.refl _ _).al _)) (fun u q hu he => Nat.lt_of_lt_of_le (HUB.out u q hu he) HC1.out.size) (Nat.le_trans hz1w HC1.out.size) HAT.out HOW.out HGR.out
                    exact S.out ((Out.refl B (B + 1) w6).setC (p := ⟨B, 1, none⟩) (Nat.le_refl _) (Nat.lt_succ_self _) _) HBL9.out
                  · exact (((HO.out.belowHi HR10.out).al _).grownHi HGR.out (fun q e => (World.ownsRow.lt HU10.out q e).1)).setC (p := ⟨B, 1, none⟩) (Nat.le_refl _) (Nat.lt_succ_self _) _
                case measure => simp [intOf]; omega
          obtain rfl : ll = j := by omega
          obtain ⟨w10, hw10⟩ : ∃ W, W = wr := ⟨_, rfl⟩
          subst hw10
          have HSA := Lib.hid HS.out
          have HGA := Lib.hid HG.out
          have HOA := Lib.hid HO.out
          have MA := Lib.hid (HO.out.blk MQ.out (.inl (by have := HB0.out; omega)))
          obtain ⟨pE, hpE⟩ : ∃ z, z = oa := ⟨_, rfl⟩
          subst hpE
          obtain ⟨pG, hpG⟩ : ∃ z, z = oc := ⟨_, rfl⟩
          subst hpG
          clear HS HG HO HBW HCW
          obtain ⟨m0, m1⟩ := cells2 MA.out
          have ml' := lt_of MA.out
          go_wp2_with fail
          clear m0 m1 ml'
          go_loopw [140] (fun i wr => ∃ (j c : Nat) (oa : Option Addr) (oc : Nat), j ≤ ml ∧ i = .int .i64 j ∧ c ≤ 30 + j ∧ Hid (c = ll + ((m.links.take j).filter isMidB).length) ∧ Hid (wr.heap[B]? = some (.cells #[.slice pB mQ pD, .slice oa c oc] 31)) ∧ Hid (GrowL w9.heap.size c wr (.slice oa c oc) XS) ∧ Hid (Out B (B + 1) w9 wr)) (fun i _ => ml - (intOf i).toNat)
          case atStart => exact ⟨0, ll, pE, pG, Nat.zero_le _, rfl, by omega, Lib.hid rfl, HSA, HGA, HOA⟩
          case round =>
            obtain ⟨j, c, oa, oc, hjl, rfl, hcj, HCL, HS, HG, HO⟩ := hrel
            have HBW := Lib.hid (HO.out.below HBw9.out HBw9.out.size (by have := HB0.out; omega))
            by_cases hlt : j < ml
            case pos =>
              obtain ⟨x, hx⟩ : ∃ x, (m.links)[j]? = some x := ⟨_, List.getElem?_eq_getElem (by rw [← NM.out]; exact hlt)⟩
              obtain ⟨gb, go, pcv, rfl, hgb, e0, e1, e2, e3, e4, es⟩ := (HM.out.below HBW.out).atb hx
              have hxm := List.mem_of_getElem? hx
              have HX := Lib.hid hx
              have HLB := Lib.hid (isS_len (tok_isS HOM.out hxm))
              have HXE := ok_ends HOM.out hxm
              have HMI := Lib.hid (mid_iff HOM.out hxm)
              clear hx hxm
              have ES := Lib.hid es
              obtain ⟨x0, x1, x2, x3, row⟩ := x
              simp only [] at e0 e1 e2 e3 e4 ES HLB
              have hx0 : -1 ≤ x0 ∧ x0 ≤ 12 := HXE.1.2
              have hx2 : -1 ≤ x2 ∧ x2 ≤ 12 := HXE.2.2
              clear HXE
              obtain ⟨ua, uc, rfl⟩ := es.shape
              have CA0 := fun (W : World) (hw : Below wr.heap.size wr W) => sl3link_any x0 x1 x2 x3 (.slice ua row.length uc) row W (ES.out.below hw) (by have := HLB.out; omega)
              obtain ⟨ul, hul⟩ : ∃ q, q = row.length := ⟨_, rfl⟩
              rw [← hul] at e4 CA0
              clear hul es ES
              have hz1w : w9.heap.size ≤ wr.heap.size := HO.out.size
              go_upto_region 35 with fail
              generalize hW : wr.alloc (.cells #[.int .i64 x0, .int .i64 x1, .int .i64 x2, .int .i64 x3, .slice ua ul uc] 68) = W1
              have HC1 := Lib.hid (show Below wr.heap.size wr W1 by rw [← hW]; exact (Below.refl _ _).al _)
              have X1 := Lib.hid (show W1.heap[wr.heap.size]? = some (.cells #[.int .i64 x0, .int .i64 x1, .int .i64 x2, .int .i64 x3, .slice ua ul uc] 68) by rw [← hW]; exact hp1 _ _)
              clear hW
              obtain ⟨X, hXe⟩ : ∃ z, z = wr.heap.size := ⟨_, rfl⟩
              have HXW := Lib.hid hXe
              rw [← hXe] at X1 ⊢
              clear hXe
              obtain ⟨p0, p1, p2, p3, p4⟩ := cells5 X1.out
              have pl := lt_of X1.out
              have CA := Lib.hid (fun (W : World) (hw : Below W1.heap.size W1 W) => CA0 W (HC1.out.trans (hw.mono HC1.out.size)))
              clear CA0
              by_cases hk0 : 0 ≤ x0
              case neg =>
                have d1 : decide (x0 ≥ 0) = false := decide_eq_false (by omega)
                have d1' : decide (0 ≤ x0) = false := decide_eq_false (by omega)
                have HCL1 := Lib.hid (show c = ll + ((m.links.take (j + 1)).filter isMidB).length by rw [filter_step HX.out, if_neg (by intro q; have := (HMI.out.1 q).1; have := (HMI.out.1 q).2; simp only [] at *; omega), List.append_nil]; exact HCL.out)
                have HS1 := Lib.hid (blk_in HS.out HC1.out)
                have HG1 := Lib.hid (HG.out.below HC1.out)
                have HO1 := Lib.hid (HO.out.belowHi HC1.out)
                go_wp2_with fail
                go_roundw
                case rel => exact ⟨j + 1, c, oa, oc, by omega, by go_num, by omega, HCL1, HS1, HG1, HO1⟩
                case measure => simp [intOf]; omega
              by_cases hk2 : 0 ≤ x2
              case neg =>
                have d1 : decide (x0 ≥ 0) = true := decide_eq_true (by omega)
                have d1' : decide (0 ≤ x0) = true := decide_eq_true (by omega)
                have d2 : decide (x2 ≥ 0) = false := decide_eq_false (by omega)
                have d2' : decide (0 ≤ x2) = false := decide_eq_false (by omega)
                have HCL1 := Lib.hid (show c = ll + ((m.links.take (j + 1)).filter isMidB).length by rw [filter_step HX.out, if_neg (by intro q; have := (HMI.out.1 q).1; have := (HMI.out.1 q).2; simp only [] at *; omega), List.append_nil]; exact HCL.out)
                have HS1 := Lib.hid (blk_in HS.out HC1.out)
                have HG1 := Lib.hid (HG.out.below HC1.out)
                have HO1 := Lib.hid (HO.out.belowHi HC1.out)
                go_wp2_with fail
                go_roundw
                case rel => exact ⟨j + 1, c, oa, oc, by omega, by go_num, by omega, HCL1, HS1, HG1, HO1⟩
                case measure => simp [intOf]; omega
              have hmid : isMidB ⟨x0, x1, x2, x3, row⟩ = true := HMI.out.2 ⟨hk0, hk2⟩
              have HMD := Lib.hid hmid
              clear hmid
              have d1 : decide (x0 ≥ 0) = true := decide_eq_true (by omega)
              have d1' : decide (0 ≤ x0) = true := decide_eq_true (by omega)
              have d2 : decide (x2 ≥ 0) = true := decide_eq_true (by omega)
              have d2' : decide (0 ≤ x2) = true := decide_eq_true (by omega)
              go_upto_region 37 with (go_at_call 61; with_reducible refine (CA.out _ (Below.refl _ _)).mono ?_; rintro e W5 ⟨c5, rfl, o5, hb5⟩; have HS15 := Lib.hid hb5; have O5 := Lib.hid o5; have X5 := Lib.hid (blk_in X1.out hb5); obtain ⟨xa, xc, rfl⟩ := o5.shape; clear o5 hb5 p0 p1 p2 p3 p4 pl; obtain ⟨p0, p1, p2, p3, p4⟩ := cells5 X5.out; have pl := lt_of X5.out)
              generalize hW : W5.alloc (.cells #[.int .i64 x0, .int .i64 x1, .int .i64 x2, .int .i64 x3, .slice xa row.length xc] 68) = W6
              have HC6 := Lib.hid (show Below W5.heap.size W5 W6 by rw [← hW]; exact (Below.refl _ _).al _)
              have Y6 := Lib.hid (show W6.heap[W5.heap.size]? = some (.cells #[.int .i64 x0, .int .i64 x1, .int .i64 x2, .int .i64 x3, .slice xa row.length xc] 68) by rw [← hW]; exact hp1 _ _)
              clear hW
              obtain ⟨Y, hYe⟩ : ∃ z, z = W5.heap.size := ⟨_, rfl⟩
              have HYW := Lib.hid hYe
              rw [← hYe] at Y6 ⊢
              clear hYe
              have X6 := Lib.hid (blk_in X5.out HC6.out)
              have HXY : X < Y := by rw [HYW.out]; exact lt_of X5.out
              have HWY : wr.heap.size ≤ Y := by rw [HYW.out]; exact Nat.le_trans HC1.out.size HS15.out.size
              have HR6 := Lib.hid (HC1.out.trans ((HS15.out.trans (HC6.out.mono HS15.out.size)).mono HC1.out.size))
              have O6 := Lib.hid (O5.out.below HC6.out)
              have HOB := Lib.hid (show ∀ q, (Value.slice xa row.length xc).ownBlock = some q → W1.heap.size ≤ q ∧ q < Y from fun q e => by rw [HYW.out]; exact O5.out.lt q e)
              clear p0 p1 p2 p3 p4 pl
              obtain ⟨p0, p1, p2, p3, p4⟩ := cells5 X6.out
              have pl := lt_of X6.out
              obtain ⟨y0, y1, y2, y3, y4⟩ := cells5 Y6.out
              have yl := lt_of Y6.out
              have yz0 := fr_of Y6.out 0
              have yz2 := fr_of Y6.out 2
              have hn3 : ¬ X = Y := by omega
              have hn4 : ¬ Y = X := by omega
              obtain ⟨F, hF⟩ : ∃ z, z = (pm : Int) - 1 + x0 := ⟨_, rfl⟩
              obtain ⟨T, hT⟩ : ∃ z, z = (pm : Int) - 1 + x2 := ⟨_, rfl⟩
              have HFE := Lib.hid hF
              have HTE := Lib.hid hT
              have hw1 : wrap64 ((pm : Int) - 1 + x0) = (pm : Int) - 1 + x0 := IntWalk.wrap64_in _ (by omega)
              have hw2 : wrap64 ((pm : Int) - 1 + x2) = (pm : Int) - 1 + x2 := IntWalk.wrap64_in _ (by clear hw1; omega)
              clear hF hT
              go_upto_region 39 with fail
              clear hw1 hw2
              rw [← HFE.out, ← HTE.out]
              generalize hW : (W6.setCell ⟨Y, 0, none⟩ (.int .i64 F)).setCell ⟨Y, 2, none⟩ (.int .i64 T) = W10
              have Y10 := Lib.hid (show W10.heap[Y]? = some (.cells #[.int .i64 F, .int .i64 x1, .int .i64 T, .int .i64 x3, .slice xa row.length xc] 68) by rw [← hW]; exact set5_2 (set5_0 Y6.out _) _)
              have HO10 := Lib.hid (show Out Y (Y + 1) W6 W10 by rw [← hW]; exact ((Out.refl _ _ _).setC (p := ⟨Y, 0, none⟩) (Nat.le_refl _) (Nat.lt_succ_self _) _).setC (p := ⟨Y, 2, none⟩) (Nat.le_refl _) (Nat.lt_succ_self _) _)
              clear hW p0 p1 p2 p3 p4 pl y0 y1 y2 y3 y4 yl yz0 yz2
              obtain ⟨y0, y1, y2, y3, y4⟩ := cells5 Y10.out
              have yl := lt_of Y10.out
              have HR10 := Lib.hid (HO10.out.below HR6.out (Nat.le_trans HC1.out.size (Nat.le_trans HS15.out.size HC6.out.size)) HWY)
              have B10 := Lib.hid (blk_in HS.out HR10.out)
              have HAT := Lib.hid (show XS[c]? = some ⟨F, x1, T, x3, row⟩ by
                rw [HXS.out, expL_mid HT.out HX.out HMD.out (by rw [← NL.out]; exact HCL.out), ren_mid hk0 hk2, HFE.out, HTE.out, ← HBE.out])
              have HCL1 := Lib.hid (show c + 1 = ll + ((m.links.take (j + 1)).filter isMidB).length by rw [filter_step HX.out, if_pos HMD.out, List.length_append, ← Nat.add_assoc, ← HCL.out]; rfl)
              obtain ⟨us, lus, ltk, hU1, hU2⟩ := HG.out
              have HU0 := Lib.hid hU1
              have HU2 := Lib.hid hU2
              have HUB := Lib.hid (show ∀ u q, u ∈ us → u.ownBlock = some q → q < wr.heap.size from fun u q hu he => fam_hi HU2.out u hu q he)
              have HNE := Lib.hid (show some B ≠ (Value.slice oa c oc).ownBlock from fun e => by have := (World.ownsRow.lt HU0.out B e.symm).1; have := HBL9.out; omega)
              clear hU1 hU2 ltk
              have O10 := Lib.hid (show Own W1.heap.size W10 (.slice xa row.length xc) row from row_out O6.out HO10.out (fun q e => .inl (HOB.out q e).2))
              obtain ⟨b0, b1⟩ := cells2 B10.out
              have bl := lt_of B10.out
              have bz := fr_of B10.out 1
              have hzw : w9.heap.size ≤ W10.heap.size := Nat.le_trans hz1w HR10.out.size
              have HU10 := Lib.hid (row_below HU0.out HR10.out)
              go_wp2_with (at_builtin; refine Go.wpList_append_lies _ rfl _ _ 29 rfl w9.heap.size 68 j0 (.agg #[.int .i64 0, .int .i64 0, .int .i64 0, .int .i64 0, .slice none 0 0]) 5 56 Try.underlying29 hj hy0 hy1 hy2 rfl (by decide) (.slice oa c oc) c (cellsL (XS.take c) us) rfl (World.ownsRow.alloc HU10.out _) ⟨W10.heap.size, 0, none⟩ 1 1 [.int .i64 F, .int .i64 x1, .int .i64 T, .int .i64 x3, .slice xa row.length xc] rfl rfl (lit_cells W10 #[.int .i64 F, .int .i64 x1, .int .i64 T, .int .i64 x3, .slice xa row.length xc] 68) (by intro u hu; simp at hu; rcases hu with rfl | rfl | rfl | rfl | rfl <;> rfl) (by omega) (by unfold maxLen; omega) (by omega) (by simp; exact Nat.le_trans hzw (Nat.le_succ _)) (W10.heap.size + 1) (by simp) ?_; intro g gc w6 hown hgrow hor hglt; have B11 := Lib.hid (grow_box B10.out hgrow HNE.out); have HOW := Lib.hid hown; have HGR := Lib.hid hgrow; obtain ⟨d0, d1'⟩ := cells2 B11.out; have dz := fr_of B11.out 1; have dl := lt_of B11.out; clear hown hgrow hor hglt)
              go_roundw
              case rel =>
                refine ⟨j + 1, c + 1, some ⟨g, 0, none⟩, gc, by omega, by go_num, by omega, HCL1, Lib.hid (set2_1 B11.out _), Lib.hid ?_, Lib.hid ?_⟩
                · have S := GrowL.step (a := ⟨F, x1, T, x3, row⟩) (w3 := W10.alloc (.cells #[.int .i64 F, .int .i64 x1, .int .i64 T, .int .i64 x3, .slice xa row.length xc] 68)) lus (World.ownsRow.alloc HU10.out _) ((HU2.out.below HR10.out).below ((Below.refl _ _).al _)) (O10.out.below ((Below.refl _ _).al _)) (fun u q hu he => Nat.lt_of_lt_of_le (HUB.out u q hu he) HC1.out.size) (Nat.le_trans hz1w HC1.out.size) HAT.out HOW.out HGR.out
                  exact S.out ((Out.refl B (B + 1) w6).setC (p := ⟨B, 1, none⟩) (Nat.le_refl _) (Nat.lt_succ_self _) _) HBL9.out
                · exact (((HO.out.belowHi HR10.out).al _).grownHi HGR.out (fun q e => (World.ownsRow.lt HU10.out q e).1)).setC (p := ⟨B, 1, none⟩) (Nat.le_refl _) (Nat.lt_succ_self _) _
              case measure => simp [intOf]; omega
            obtain rfl : ml = j := by omega
            have htk : m.links.take ml = m.links := List.take_of_length_le (by rw [← NM.out]; exact Nat.le_refl _)
            have hcl := HCL.out
            rw [htk] at hcl
            have HLR := Lib.hid (HG.out.done (show XS.length = c by rw [HXS.out, expL_len HT.out, ← NL.out]; exact hcl.symm))
            have HXL := Lib.hid (show XS = (expN n kk m).links from HXS.out)
            rw [HXL.out] at HLR
            clear htk hcl HG HCL
            have HPR2 := Lib.hid (HPR.out.outB HS9.out (by decide) (by decide) HO.out)
            have JW := Lib.hid (HO.out.blk JQ.out (.inl (by have := HB0.out; omega)))
            have HBS := Lib.hid HS.out
            have HNR := Lib.hid (show NetR w7.heap.size wr.heap.size wr (.agg #[.slice pB mQ pD, .slice oa c oc]) (expN n kk m) from ⟨_, _, rfl, HPR2.out.mono (Nat.le_refl _) HO.out.size, HLR.out.mono HOQ.out.size (Nat.le_refl _), wf_exp HT.out⟩)
            have CF0 := fun (W : World) (hw : Below wr.heap.size wr W) => sisnet_any (.agg #[.slice pB mQ pD, .slice oa c oc]) (expN n kk m) W (HNR.out.below hw).v
            have hne1 : ¬ B = w.heap.size + 1 + 1 := by have := HB0.out; omega
            have hne2 : ¬ w.heap.size + 1 + 1 = B := by have := HB0.out; omega
            obtain ⟨s0, s1⟩ := cells2 HBS.out
            have sl := lt_of HBS.out
            clear HPR HPR2 HLR hcj HS
            cases hv : okN (expN n kk m) with
            | false =>
              rw [hv] at CF0
              have CF := Lib.hid CF0
              have E1 := Lib.hid (show R1 = false from HB1.out.trans hv)
              have E0 := Lib.hid (show R0 = ⟨[], []⟩ from HR0.out.trans (exp_no (HR1.out.symm.trans E1.out)))
              obtain rfl := E1.out
              obtain rfl := E0.out
              clear hv CF0
              go_wp2_with (go_at_call 45; (with_reducible refine (CF.out _ (Below.refl _ _)).mono ?_); rintro e W9 ⟨rfl, hb9⟩; have HC9 := Lib.hid hb9; have HBZ := Lib.hid (HBW.out.trans (HC9.out.mono HBW.out.size)); have JZ := Lib.hid (blk_in JW.out HC9.out); obtain ⟨q0, q1⟩ := cells2 JZ.out; have ql := lt_of JZ.out; have qz0 := fr_of JZ.out 0; have qz1 := fr_of JZ.out 1; clear hb9 s0 s1 sl; obtain ⟨s0, s1⟩ := cells2 (blk_in HBS.out HC9.out); have sl := lt_of (blk_in HBS.out HC9.out))
              refine bodyPost_ret (v := .tuple #[.agg #[.slice none 0 0, .slice none 0 0], .bool false]) (by simp [results, Try.results26, go_sem, q0, q1]) rfl ⟨_, rfl, netR_nil _ _ _, ?_⟩
              have hle : w.heap.size ≤ w.heap.size + 1 + 1 := by omega
              first | exact HBZ.out | exact (HBZ.out.setCell hle _).setCell hle _
            | true =>
              rw [hv] at CF0
              have CF := Lib.hid CF0
              have E1 := Lib.hid (show R1 = true from HB1.out.trans hv)
              have E0 := Lib.hid (show R0 = expN n kk m by rw [HR0.out, exp_yes (HR1.out.symm.trans E1.out), Int.toNat_natCast])
              obtain rfl := E1.out
              obtain rfl := E0.out
              clear hv CF0
              go_wp2_with (go_at_call 45; (with_reducible refine (CF.out _ (Below.refl _ _)).mono ?_); rintro e W9 ⟨rfl, hb9⟩; have HC9 := Lib.hid hb9; have HBZ := Lib.hid (HBW.out.trans (HC9.out.mono HBW.out.size)); have JZ := Lib.hid (blk_in JW.out HC9.out); obtain ⟨q0, q1⟩ := cells2 JZ.out; have ql := lt_of JZ.out; have qz0 := fr_of JZ.out 0; have qz1 := fr_of JZ.out 1; clear hb9 s0 s1 sl; obtain ⟨s0, s1⟩ := cells2 (blk_in HBS.out HC9.out); have sl := lt_of (blk_in HBS.out HC9.out))
              refine bodyPost_ret (v := .tuple #[.agg #[.slice pB mQ pD, .slice oa c oc], .bool true]) (by simp [results, Try.results26, go_sem, q0, q1]) rfl ⟨_, rfl, ?_, ?_⟩
              · have q := set2_all JZ.out (.slice pB mQ pD) (.slice oa c oc)
                first
                | exact ((HNR.out.below HC9.out).out q.2 (.inr (by have := HB0.out; have := HBL.out; omega))).mono (by have := HB0.out; have := HBL.out; omega) (Nat.le_trans HC9.out.size q.2.size)
                | trace_state
              · have q := set2_all JZ.out (.slice pB mQ pD) (.slice oa c oc)
                first
                | exact q.2.below HBZ.out (Nat.le_trans HBW.out.size HC9.out.size) (by omega)
                | trace_state


theorem PrgsO.outLo {lo hi g m k : Nat} {w w' : World} {xs : List Prg} (h : PrgsO g m w xs k) (ho : Out lo hi w w') (hg : hi ≤ g) : PrgsO g m w' xs k ∧ ∀ hi' k', k' ≤ m → RowA 3 g hi' w k' → RowA 3 g hi' w' k' := by
  obtain ⟨cs, h1, h2⟩ := h
  have hl := h1.1
  have R := row_out h1 ho (fun q e => .inr (Nat.le_trans hg (World.ownsRow.lt h1 q e).1))
  refine ⟨⟨cs, R, fun i x hi hx => ?_⟩, fun hi' k' hk' ha => ha.same fun i hi => by rw [R.cellAt _ (by omega), h1.cellAt _ (by omega)]⟩
  obtain ⟨c, a0, a1, a2, hc⟩ := h2 i x hi hx
  exact ⟨c, a0, a1, a2, row_out hc ho (fun q e => .inr (Nat.le_trans hg (Nat.le_of_succ_le (World.ownsRow.lt hc q e).1)))⟩
theorem LnksO.outLo {lo hi g m k : Nat} {w w' : World} {xs : List Lnk} (h : LnksO g m w xs k) (ho : Out lo hi w w') (hg : hi ≤ g) : LnksO g m w' xs k ∧ ∀ hi' k', k' ≤ m → RowA 5 g hi' w k' → RowA 5 g hi' w' k' := by
  obtain ⟨cs, h1, h2⟩ := h
  have hl := h1.1
  have R := row_out h1 ho (fun q e => .inr (Nat.le_trans hg (World.ownsRow.lt h1 q e).1))
  refine ⟨⟨cs, R, fun i x hi hx => ?_⟩, fun hi' k' hk' ha => ha.same fun i hi => by rw [R.cellAt _ (by omega), h1.cellAt _ (by omega)]⟩
  obtain ⟨c, a0, a1, a2, a3, a4, hc⟩ := h2 i x hi hx
  exact ⟨c, a0, a1, a2, a3, a4, row_out hc ho (fun q e => .inr (Nat.le_trans hg (Nat.le_of_succ_le (World.ownsRow.lt hc q e).1)))⟩
theorem NetH.outLo {lo hi l2 h2 : Nat} {w w' : World} {v : Value} {n : Net} (h : NetH lo hi w v n) (ho : Out l2 h2 w w') (hd : h2 ≤ lo) : NetH lo hi w' v n := by
  obtain ⟨⟨g, k, e, q1, q2, hp, hl, ap, al⟩, hw, hz⟩ := h
  obtain ⟨P, PA⟩ := hp.outLo ho (by omega)
  obtain ⟨L, LA⟩ := hl.outLo ho (by omega)
  exact ⟨⟨g, k, e, q1, q2, P, L, PA _ _ (Nat.le_refl _) ap, LA _ _ (Nat.le_refl _) al⟩, hw, Nat.le_trans hz ho.size⟩

set_option maxRecDepth 100000 in
set_option maxHeartbeats 40000000 in
theorem fnExactExpandNetwork_walk (v0 : Value) (x0 : Net) (x1 : Int) (v2 : Value) (x2 : Net) (w : World) (h0 : NetV w v0 x0) (h1 : (Lit.int .i64 x1).wf = true) (h2 : NetV w v2 x2) :
    Calls Try.prog 6 #[v0, .int .i64 x1, v2] w fun e w' => e = .returned (.bool true) ∧ Below w.heap.size w w' := by
  have HA0 := Lib.hid h0
  obtain ⟨cp, cl, rfl, hp, hl⟩ := h0
  obtain ⟨pa0, pcap0, rfl⟩ := hp.shape
  obtain ⟨la0, lcap0, rfl⟩ := hl.shape
  clear hp hl
  have HA2 := Lib.hid h2
  obtain ⟨cp, cl, rfl, hp, hl⟩ := h2
  obtain ⟨pa2, pcap2, rfl⟩ := hp.shape
  obtain ⟨la2, lcap2, rfl⟩ := hl.shape
  clear hp hl
  have BD := Lib.hid (exp_bdN x0 x1 x2)
  have HB := Lib.hid (Below.refl w.heap.size w)
  go_enter Try.func6, Try.ntmps6
  have HL0 := Lib.hid (show (0 : Int) ≤ 1048576 ∧ (1048576 : Int) ≤ 1048576 by omega)
  go_wp2_with fail
  generalize hw1 : w.alloc (.cells #[.slice pa0 (x0).progs.length pcap0, .slice la0 (x0).links.length lcap0] 25) = w1
  have hb1 : Below w.heap.size w w1 := by rw [← hw1]; exact (Below.refl _ _).al _
  have hn1 : w1.heap[w.heap.size]? = some (.cells #[.slice pa0 (x0).progs.length pcap0, .slice la0 (x0).links.length lcap0] 25) := by rw [← hw1]; exact hp1 _ _
  have hz1 : w.heap.size + 1 = w1.heap.size := by rw [← hw1]; simp
  rw [hz1]
  clear hz1
  clear hw1
  have s1 := Lib.hid (show w.heap.size ≤ w1.heap.size from hb1.size)
  replace HB := Lib.hid (HB.out.trans (hb1.mono HB.out.size))
  have B_a0 := Lib.hid hn1
  have t1 := Lib.hid (lt_of hn1)
  clear hn1 hb1
  obtain ⟨c_a0_0, c_a0_1⟩ := cells2 B_a0.out
  have l_a0 := lt_of B_a0.out
  generalize hw2 : w1.alloc (.cells #[.slice pa2 (x2).progs.length pcap2, .slice la2 (x2).links.length lcap2] 25) = w2
  have hb2 : Below w1.heap.size w1 w2 := by rw [← hw2]; exact (Below.refl _ _).al _
  have hn2 : w2.heap[w1.heap.size]? = some (.cells #[.slice pa2 (x2).progs.length pcap2, .slice la2 (x2).links.length lcap2] 25) := by rw [← hw2]; exact hp1 _ _
  clear hw2
  have s2 := Lib.hid (show w1.heap.size ≤ w2.heap.size from hb2.size)
  clear c_a0_0 c_a0_1 l_a0
  replace B_a0 := Lib.hid (blk_in B_a0.out hb2)
  replace HB := Lib.hid (HB.out.trans (hb2.mono HB.out.size))
  have B_a2 := Lib.hid hn2
  have t2 := Lib.hid (lt_of hn2)
  clear hn2 hb2
  obtain ⟨c_a0_0, c_a0_1⟩ := cells2 B_a0.out
  have l_a0 := lt_of B_a0.out
  obtain ⟨c_a2_0, c_a2_1⟩ := cells2 B_a2.out
  have l_a2 := lt_of B_a2.out
  go_at_call 12
  by_cases z0 : ((szN x0 : Nat) : Int) ≤ 1048576
  case neg =>
    refine (szNet_any _ x0 (1048576) _ (HA0.out.below HB.out) HL0.out).mono ?_
    rintro e wz ⟨rfl, hb⟩
    rw [if_neg z0]
    go_wp2_with fail
    go_ret
    exact ⟨rfl, HB.out.trans (hb.mono HB.out.size)⟩
  refine (szNet_any _ x0 (1048576) _ (HA0.out.below HB.out) HL0.out).mono ?_
  rintro e w3 ⟨rfl, hb3⟩
  rw [if_pos z0]
  obtain ⟨l1, hl⟩ : ∃ l : Int, l = 1048576 - ((szN x0 : Nat) : Int) := ⟨_, rfl⟩
  rw [← hl]
  have HL1 := Lib.hid (show 0 ≤ l1 ∧ l1 ≤ 1048576 by have := HL0.out; omega)
  have HS0 := Lib.hid (show szN x0 ≤ 1048576 by have := HL0.out; omega)
  have d1 : decide (l1 < 0) = false := decide_eq_false (by have := HL1.out; omega)
  clear hl z0
  have s3 := Lib.hid (show w2.heap.size ≤ w3.heap.size from hb3.size)
  clear c_a0_0 c_a0_1 l_a0
  clear c_a2_0 c_a2_1 l_a2
  replace B_a0 := Lib.hid (blk_in B_a0.out hb3)
  replace B_a2 := Lib.hid (blk_in B_a2.out hb3)
  replace HB := Lib.hid (HB.out.trans (hb3.mono HB.out.size))
  clear hb3
  obtain ⟨c_a0_0, c_a0_1⟩ := cells2 B_a0.out
  have l_a0 := lt_of B_a0.out
  obtain ⟨c_a2_0, c_a2_1⟩ := cells2 B_a2.out
  have l_a2 := lt_of B_a2.out
  go_wp2_with fail
  go_at_call 12
  by_cases z2 : ((szN x2 : Nat) : Int) ≤ l1
  case neg =>
    refine (szNet_any _ x2 (l1) _ (HA2.out.below HB.out) HL1.out).mono ?_
    rintro e wz ⟨rfl, hb⟩
    rw [if_neg z2]
    go_wp2_with fail
    go_ret
    exact ⟨rfl, HB.out.trans (hb.mono HB.out.size)⟩
  refine (szNet_any _ x2 (l1) _ (HA2.out.below HB.out) HL1.out).mono ?_
  rintro e w4 ⟨rfl, hb4⟩
  rw [if_pos z2]
  obtain ⟨l2, hl⟩ : ∃ l : Int, l = l1 - ((szN x2 : Nat) : Int) := ⟨_, rfl⟩
  rw [← hl]
  have HL2 := Lib.hid (show 0 ≤ l2 ∧ l2 ≤ 1048576 by have := HL1.out; omega)
  have HS2 := Lib.hid (show szN x2 ≤ 1048576 by have := HL1.out; omega)
  have d2 : decide (l2 < 0) = false := decide_eq_false (by have := HL2.out; omega)
  clear hl z2
  have s4 := Lib.hid (show w3.heap.size ≤ w4.heap.size from hb4.size)
  clear c_a0_0 c_a0_1 l_a0
  clear c_a2_0 c_a2_1 l_a2
  replace B_a0 := Lib.hid (blk_in B_a0.out hb4)
  replace B_a2 := Lib.hid (blk_in B_a2.out hb4)
  replace HB := Lib.hid (HB.out.trans (hb4.mono HB.out.size))
  clear hb4
  obtain ⟨c_a0_0, c_a0_1⟩ := cells2 B_a0.out
  have l_a0 := lt_of B_a0.out
  obtain ⟨c_a2_0, c_a2_1⟩ := cells2 B_a2.out
  have l_a2 := lt_of B_a2.out
  go_upto_region 8 with fail
  go_cut [8, 9] from 124 (fun s8 s9 wr => ∃ (a_r : Option Addr) (b_r : Nat) (c_r : Option Addr) (d_r bg_r : Nat), s8 = .pointer (some ⟨bg_r, 0, none⟩) ∧ s9 = .bool (expB x0 x1 x2) ∧ Hid (wr.heap[bg_r]? = some (.cells #[.slice a_r (expandNetworkR0 x0 x1 x2).progs.length b_r, .slice c_r (expandNetworkR0 x0 x1 x2).links.length d_r] 31)) ∧ Hid (NetR w4.heap.size wr.heap.size wr (.agg #[.slice a_r (expandNetworkR0 x0 x1 x2).progs.length b_r, .slice c_r (expandNetworkR0 x0 x1 x2).links.length d_r]) (expandNetworkR0 x0 x1 x2)) ∧ Hid (Below w4.heap.size w4 wr))
  case first =>
    go_region_held3 (fun w' => w'.cell? ⟨w.heap.size, 0, none⟩ = some (.slice pa0 (x0).progs.length pcap0) ∧ w'.cell? ⟨w.heap.size, 1, none⟩ = some (.slice la0 (x0).links.length lcap0) ∧ w'.cell? ⟨w1.heap.size, 0, none⟩ = some (.slice pa2 (x2).progs.length pcap2) ∧ w'.cell? ⟨w1.heap.size, 1, none⟩ = some (.slice la2 (x2).links.length lcap2)) (go_keep) (first | (go_at_call 14; (with_reducible refine (toNet_h _ x0 _ (HA0.out.below (HB.out.trans ((by first | with_reducible exact (Below.refl _ _) | with_reducible exact (Below.refl _ _).drew | with_reducible exact (Below.refl _ _).al _ | with_reducible exact ((Below.refl _ _).al _).drew | with_reducible exact (Below.refl _ _).drew.al _ : Below w4.heap.size w4 _).mono HB.out.size))) HS0.out).mono ?_); rintro e X70 ⟨v70, rfl, ot70, hx70⟩; have hs70 := (show Below w4.heap.size w4 _ by exact (by first | with_reducible exact (Below.refl _ _) | with_reducible exact (Below.refl _ _).drew | with_reducible exact (Below.refl _ _).al _ | with_reducible exact ((Below.refl _ _).al _).drew | with_reducible exact (Below.refl _ _).drew.al _)).trans (hx70.mono (by simp <;> omega)); have HC70 := Lib.hid hs70; (try (have zA := Lib.hid (show X70.heap[w4.heap.size]? = some (.cells #[.slice none 0 0, .slice none 0 0] 31) by first | exact blk_in (W := (w4.alloc (.cells #[.slice none 0 0, .slice none 0 0] 31)).drew) (hp1 w4 _) hx70 | exact blk_in (W := w4.alloc (.cells #[.slice none 0 0, .slice none 0 0] 31)) (hp1 w4 _) hx70 | exact blk_in (W := (World.drew w4).alloc (.cells #[.slice none 0 0, .slice none 0 0] 31)) (hp1 (World.drew w4) _) hx70); have nA := lt_of zA.out)); have Q70_a0 := Lib.hid (blk_in B_a0.out hs70); obtain ⟨e70_a0_0, e70_a0_1⟩ := cells2 Q70_a0.out; have l70_a0 := lt_of Q70_a0.out; have Q70_a2 := Lib.hid (blk_in B_a2.out hs70); obtain ⟨e70_a2_0, e70_a2_1⟩ := cells2 Q70_a2.out; have l70_a2 := lt_of Q70_a2.out; obtain ⟨ra70, rb70, rfl⟩ := ot70.shape; have T0_70 := Lib.hid ot70; clear ot70 hx70 hs70) | (go_at_call 14; (with_reducible refine (toNet_h _ x2 _ (HA2.out.below (HB.out.trans ((by first | with_reducible exact HC70.out | with_reducible exact HC70.out.drew | with_reducible exact HC70.out.al _ | with_reducible exact (HC70.out.al _).drew | with_reducible exact HC70.out.drew.al _ : Below w4.heap.size w4 _).mono HB.out.size))) HS2.out).mono ?_); rintro e X72 ⟨v72, rfl, ot72, hx72⟩; have hs72 := (show Below X70.heap.size X70 _ by exact (by first | with_reducible exact (Below.refl _ _) | with_reducible exact (Below.refl _ _).drew | with_reducible exact (Below.refl _ _).al _ | with_reducible exact ((Below.refl _ _).al _).drew | with_reducible exact (Below.refl _ _).drew.al _)).trans (hx72.mono (by simp <;> omega)); have HC72 := Lib.hid (HC70.out.trans (hs72.mono HC70.out.size)); have s_72 : X70.heap.size ≤ X72.heap.size := hs72.size; (try (replace zA := Lib.hid (blk_in zA.out hs72))); (try (have zB := Lib.hid (show X72.heap[X70.heap.size]? = some (.cells #[.slice none 0 0, .slice none 0 0] 31) by first | exact blk_in (W := (X70.alloc (.cells #[.slice none 0 0, .slice none 0 0] 31)).drew) (hp1 X70 _) hx72 | exact blk_in (W := X70.alloc (.cells #[.slice none 0 0, .slice none 0 0] 31)) (hp1 X70 _) hx72 | exact blk_in (W := (World.drew X70).alloc (.cells #[.slice none 0 0, .slice none 0 0] 31)) (hp1 (World.drew X70) _) hx72); have nB := lt_of zB.out)); have Q72_a0 := Lib.hid (blk_in Q70_a0.out hs72); obtain ⟨e72_a0_0, e72_a0_1⟩ := cells2 Q72_a0.out; have l72_a0 := lt_of Q72_a0.out; have Q72_a2 := Lib.hid (blk_in Q70_a2.out hs72); obtain ⟨e72_a2_0, e72_a2_1⟩ := cells2 Q72_a2.out; have l72_a2 := lt_of Q72_a2.out; have T0_72 := Lib.hid (T0_70.out.below hs72); obtain ⟨ra72, rb72, rfl⟩ := ot72.shape; have T2_72 := Lib.hid ot72; clear ot72 hx72 hs72) | (go_at_call 26; refine (sexpnet_any _ x0 x1 _ x2 _ (by first | with_reducible exact T0_72.out.v | with_reducible exact (T0_72.out.below (Below.refl _ _).drew).v | with_reducible exact (T0_72.out.below ((Below.refl _ _).al _)).v | with_reducible exact (T0_72.out.below ((Below.refl _ _).al _).drew).v | with_reducible exact (T0_72.out.below ((Below.refl _ _).drew.al _)).v) h1 (by first | with_reducible exact T2_72.out.v | with_reducible exact (T2_72.out.below (Below.refl _ _).drew).v | with_reducible exact (T2_72.out.below ((Below.refl _ _).al _)).v | with_reducible exact (T2_72.out.below ((Below.refl _ _).al _).drew).v | with_reducible exact (T2_72.out.below ((Below.refl _ _).drew.al _)).v)).mono ?_; rintro e X79 ⟨v_r0, rfl, og, hx79⟩; have hs79 := (show Below X72.heap.size X72 _ by exact (by first | with_reducible exact (Below.refl _ _) | with_reducible exact (Below.refl _ _).drew | with_reducible exact (Below.refl _ _).al _ | with_reducible exact ((Below.refl _ _).al _).drew | with_reducible exact (Below.refl _ _).drew.al _)).trans (hx79.mono (by simp <;> omega)); have HC79 := Lib.hid (HC72.out.trans (hs79.mono HC72.out.size)); (try (replace zA := Lib.hid (blk_in zA.out hs79))); (try (replace zB := Lib.hid (blk_in zB.out hs79))); (try (have zC := Lib.hid (show X79.heap[X72.heap.size]? = some (.cells #[.slice none 0 0, .slice none 0 0] 31) by first | exact blk_in (W := (X72.alloc (.cells #[.slice none 0 0, .slice none 0 0] 31)).drew) (hp1 X72 _) hx79 | exact blk_in (W := X72.alloc (.cells #[.slice none 0 0, .slice none 0 0] 31)) (hp1 X72 _) hx79 | exact blk_in (W := (World.drew X72).alloc (.cells #[.slice none 0 0, .slice none 0 0] 31)) (hp1 (World.drew X72) _) hx79); have nC := lt_of zC.out)); have sz1 : w4.heap.size ≤ X70.heap.size := HC70.out.size; have sz2 : w4.heap.size ≤ X72.heap.size := HC72.out.size; have := (show ¬ w.heap.size = w4.heap.size by omega); have := (show ¬ w4.heap.size = w.heap.size by omega); have := (show ¬ w.heap.size = X70.heap.size by omega); have := (show ¬ X70.heap.size = w.heap.size by omega); have := (show ¬ w.heap.size = X72.heap.size by omega); have := (show ¬ X72.heap.size = w.heap.size by omega); have := (show ¬ w1.heap.size = w4.heap.size by omega); have := (show ¬ w4.heap.size = w1.heap.size by omega); have := (show ¬ w1.heap.size = X70.heap.size by omega); have := (show ¬ X70.heap.size = w1.heap.size by omega); have := (show ¬ w1.heap.size = X72.heap.size by omega); have := (show ¬ X72.heap.size = w1.heap.size by omega); (try (obtain ⟨yA0, yA1⟩ := cells2 zA.out; have ylA := lt_of zA.out; have yaA := fr_of zA.out 0; have ybA := fr_of zA.out 1)); (try (obtain ⟨yB0, yB1⟩ := cells2 zB.out; have ylB := lt_of zB.out; have yaB := fr_of zB.out 0; have ybB := fr_of zB.out 1)); (try (obtain ⟨yC0, yC1⟩ := cells2 zC.out; have ylC := lt_of zC.out; have yaC := fr_of zC.out 0; have ybC := fr_of zC.out 1)); have Q79_a0 := Lib.hid (blk_in Q72_a0.out hs79); obtain ⟨e79_a0_0, e79_a0_1⟩ := cells2 Q79_a0.out; have l79_a0 := lt_of Q79_a0.out; have Q79_a2 := Lib.hid (blk_in Q72_a2.out hs79); obtain ⟨e79_a2_0, e79_a2_1⟩ := cells2 Q79_a2.out; have l79_a2 := lt_of Q79_a2.out; have T0_79 := Lib.hid (T0_72.out.below hs79); have T2_79 := Lib.hid (T2_72.out.below hs79); obtain ⟨a_r, b_r, c_r, d_r, rfl⟩ := og.shape; have OG := Lib.hid (NetR.mono (lo' := X72.heap.size) og (by simp) (Nat.le_refl _)); (try (have OGC := Lib.hid (NetR.mono (lo' := X72.heap.size + 1) og (by simp) (Nat.le_refl _)))); clear og; clear hx79 hs79))
    all_goals
      go_wp2_with fail
      go_meet
      case rel =>
        refine ⟨a_r, b_r, c_r, d_r, _, rfl, rfl, ?_, ?_, ?_⟩
        · first | exact Lib.hid (hp1 _ _) | exact Lib.hid (set2_all zA.out _ _).1 | exact Lib.hid (set2_all (blk_in zA.out (Below.refl _ _).drew) _ _).1 | exact Lib.hid (set2_all zB.out _ _).1 | exact Lib.hid (set2_all (blk_in zB.out (Below.refl _ _).drew) _ _).1 | exact Lib.hid (set2_all zC.out _ _).1 | exact Lib.hid (set2_all (blk_in zC.out (Below.refl _ _).drew) _ _).1
        · first | exact Lib.hid ((OG.out.below ((Below.refl _ _).al _)).mono HC72.out.size ((Below.refl _ _).al _).size) | exact Lib.hid ((OG.out.below ((Below.refl _ _).drew.al _)).mono HC72.out.size ((Below.refl _ _).drew.al _).size) | exact Lib.hid ((OG.out.out (set2_all zA.out _ _).2 (.inr (Nat.le_trans nA s_72))).mono HC72.out.size (set2_all zA.out _ _).2.size) | exact Lib.hid (((OG.out.below (Below.refl _ _).drew).out (set2_all (blk_in zA.out (Below.refl _ _).drew) _ _).2 (.inr (Nat.le_trans nA s_72))).mono HC72.out.size (set2_all (blk_in zA.out (Below.refl _ _).drew) _ _).2.size) | exact Lib.hid ((OG.out.out (set2_all zB.out _ _).2 (.inr nB)).mono HC72.out.size (set2_all zB.out _ _).2.size) | exact Lib.hid (((OG.out.below (Below.refl _ _).drew).out (set2_all (blk_in zB.out (Below.refl _ _).drew) _ _).2 (.inr nB)).mono HC72.out.size (set2_all (blk_in zB.out (Below.refl _ _).drew) _ _).2.size) | exact Lib.hid ((OGC.out.out (set2_all zC.out _ _).2 (.inr (Nat.le_refl _))).mono (Nat.le_succ_of_le HC72.out.size) (set2_all zC.out _ _).2.size) | exact Lib.hid (((OGC.out.below (Below.refl _ _).drew).out (set2_all (blk_in zC.out (Below.refl _ _).drew) _ _).2 (.inr (Nat.le_refl _))).mono (Nat.le_succ_of_le HC72.out.size) (set2_all (blk_in zC.out (Below.refl _ _).drew) _ _).2.size)
        · first | exact Lib.hid (HC79.out.al _) | exact Lib.hid (HC79.out.drew.al _) | exact Lib.hid ((HC79.out.setCell (p := ⟨_, 0, none⟩) (Nat.le_refl _) _).setCell (p := ⟨_, 1, none⟩) (Nat.le_refl _) _) | exact Lib.hid ((HC79.out.drew.setCell (p := ⟨_, 0, none⟩) (Nat.le_refl _) _).setCell (p := ⟨_, 1, none⟩) (Nat.le_refl _) _) | exact Lib.hid ((HC79.out.setCell (p := ⟨_, 0, none⟩) HC70.out.size _).setCell (p := ⟨_, 1, none⟩) HC70.out.size _) | exact Lib.hid ((HC79.out.drew.setCell (p := ⟨_, 0, none⟩) HC70.out.size _).setCell (p := ⟨_, 1, none⟩) HC70.out.size _) | exact Lib.hid ((HC79.out.setCell (p := ⟨_, 0, none⟩) HC72.out.size _).setCell (p := ⟨_, 1, none⟩) HC72.out.size _) | exact Lib.hid ((HC79.out.drew.setCell (p := ⟨_, 0, none⟩) HC72.out.size _).setCell (p := ⟨_, 1, none⟩) HC72.out.size _)
  rename World => w5
  obtain ⟨a_r, b_r, c_r, d_r, bg_r, rfl, rfl, B_r, o_r, hb5⟩ := hcut
  replace hb5 := hb5.out
  have s5 := Lib.hid (show w4.heap.size ≤ w5.heap.size from hb5.size)
  clear c_a0_0 c_a0_1 l_a0
  clear c_a2_0 c_a2_1 l_a2
  replace B_a0 := Lib.hid (blk_in B_a0.out hb5)
  replace B_a2 := Lib.hid (blk_in B_a2.out hb5)
  replace HB := Lib.hid (HB.out.trans (hb5.mono HB.out.size))
  clear hb5
  have tb_r := Lib.hid (lt_of B_r.out)
  obtain ⟨c_a0_0, c_a0_1⟩ := cells2 B_a0.out
  have l_a0 := lt_of B_a0.out
  obtain ⟨c_a2_0, c_a2_1⟩ := cells2 B_a2.out
  have l_a2 := lt_of B_a2.out
  obtain ⟨c_r_0, c_r_1⟩ := cells2 B_r.out
  have l_r := lt_of B_r.out
  go_wp2_with fail
  go_at_call 14
  refine (toNet_h _ x0 _ (HA0.out.below HB.out) HS0.out).mono ?_
  rintro e w6 ⟨v_y0, rfl, o_y0, hb6⟩
  have s6 := Lib.hid (show w5.heap.size ≤ w6.heap.size from hb6.size)
  clear c_a0_0 c_a0_1 l_a0
  clear c_a2_0 c_a2_1 l_a2
  clear c_r_0 c_r_1 l_r
  replace B_a0 := Lib.hid (blk_in B_a0.out hb6)
  replace B_a2 := Lib.hid (blk_in B_a2.out hb6)
  replace B_r := Lib.hid (blk_in B_r.out hb6)
  replace o_r := Lib.hid (o_r.out.below hb6)
  replace HB := Lib.hid (HB.out.trans (hb6.mono HB.out.size))
  obtain ⟨a_y0, k_y0, rfl⟩ := o_y0.shape
  replace o_y0 := Lib.hid o_y0
  clear hb6
  obtain ⟨c_a0_0, c_a0_1⟩ := cells2 B_a0.out
  have l_a0 := lt_of B_a0.out
  obtain ⟨c_a2_0, c_a2_1⟩ := cells2 B_a2.out
  have l_a2 := lt_of B_a2.out
  obtain ⟨c_r_0, c_r_1⟩ := cells2 B_r.out
  have l_r := lt_of B_r.out
  go_wp2_with fail
  generalize hw7 : w6.alloc (.cells #[.slice a_y0 (x0).progs.length (x0).progs.length, .slice k_y0 (x0).links.length (x0).links.length] 31) = w7
  have hb7 : Below w6.heap.size w6 w7 := by rw [← hw7]; exact (Below.refl _ _).al _
  have hn7 : w7.heap[w6.heap.size]? = some (.cells #[.slice a_y0 (x0).progs.length (x0).progs.length, .slice k_y0 (x0).links.length (x0).links.length] 31) := by rw [← hw7]; exact hp1 _ _
  clear hw7
  have s7 := Lib.hid (show w6.heap.size ≤ w7.heap.size from hb7.size)
  clear c_a0_0 c_a0_1 l_a0
  clear c_a2_0 c_a2_1 l_a2
  clear c_r_0 c_r_1 l_r
  replace B_a0 := Lib.hid (blk_in B_a0.out hb7)
  replace B_a2 := Lib.hid (blk_in B_a2.out hb7)
  replace B_r := Lib.hid (blk_in B_r.out hb7)
  replace o_r := Lib.hid (o_r.out.below hb7)
  replace o_y0 := Lib.hid (o_y0.out.below hb7)
  replace HB := Lib.hid (HB.out.trans (hb7.mono HB.out.size))
  have B_y0 := Lib.hid hn7
  have t7 := Lib.hid (lt_of hn7)
  clear hn7 hb7
  obtain ⟨c_a0_0, c_a0_1⟩ := cells2 B_a0.out
  have l_a0 := lt_of B_a0.out
  obtain ⟨c_a2_0, c_a2_1⟩ := cells2 B_a2.out
  have l_a2 := lt_of B_a2.out
  obtain ⟨c_r_0, c_r_1⟩ := cells2 B_r.out
  have l_r := lt_of B_r.out
  obtain ⟨c_y0_0, c_y0_1⟩ := cells2 B_y0.out
  have l_y0 := lt_of B_y0.out
  go_wp2_with fail
  go_at_call 14
  refine (toNet_h _ x2 _ (HA2.out.below HB.out) HS2.out).mono ?_
  rintro e w8 ⟨v_y2, rfl, o_y2, hb8⟩
  have s8 := Lib.hid (show w7.heap.size ≤ w8.heap.size from hb8.size)
  clear c_a0_0 c_a0_1 l_a0
  clear c_a2_0 c_a2_1 l_a2
  clear c_r_0 c_r_1 l_r
  clear c_y0_0 c_y0_1 l_y0
  replace B_a0 := Lib.hid (blk_in B_a0.out hb8)
  replace B_a2 := Lib.hid (blk_in B_a2.out hb8)
  replace B_r := Lib.hid (blk_in B_r.out hb8)
  replace B_y0 := Lib.hid (blk_in B_y0.out hb8)
  replace o_r := Lib.hid (o_r.out.below hb8)
  replace o_y0 := Lib.hid (o_y0.out.below hb8)
  replace HB := Lib.hid (HB.out.trans (hb8.mono HB.out.size))
  obtain ⟨a_y2, k_y2, rfl⟩ := o_y2.shape
  replace o_y2 := Lib.hid o_y2
  clear hb8
  obtain ⟨c_a0_0, c_a0_1⟩ := cells2 B_a0.out
  have l_a0 := lt_of B_a0.out
  obtain ⟨c_a2_0, c_a2_1⟩ := cells2 B_a2.out
  have l_a2 := lt_of B_a2.out
  obtain ⟨c_r_0, c_r_1⟩ := cells2 B_r.out
  have l_r := lt_of B_r.out
  obtain ⟨c_y0_0, c_y0_1⟩ := cells2 B_y0.out
  have l_y0 := lt_of B_y0.out
  go_wp2_with fail
  generalize hw9 : w8.alloc (.cells #[.slice a_y2 (x2).progs.length (x2).progs.length, .slice k_y2 (x2).links.length (x2).links.length] 31) = w9
  have hb9 : Below w8.heap.size w8 w9 := by rw [← hw9]; exact (Below.refl _ _).al _
  have hn9 : w9.heap[w8.heap.size]? = some (.cells #[.slice a_y2 (x2).progs.length (x2).progs.length, .slice k_y2 (x2).links.length (x2).links.length] 31) := by rw [← hw9]; exact hp1 _ _
  clear hw9
  have s9 := Lib.hid (show w8.heap.size ≤ w9.heap.size from hb9.size)
  clear c_a0_0 c_a0_1 l_a0
  clear c_a2_0 c_a2_1 l_a2
  clear c_r_0 c_r_1 l_r
  clear c_y0_0 c_y0_1 l_y0
  replace B_a0 := Lib.hid (blk_in B_a0.out hb9)
  replace B_a2 := Lib.hid (blk_in B_a2.out hb9)
  replace B_r := Lib.hid (blk_in B_r.out hb9)
  replace B_y0 := Lib.hid (blk_in B_y0.out hb9)
  replace o_r := Lib.hid (o_r.out.below hb9)
  replace o_y0 := Lib.hid (o_y0.out.below hb9)
  replace o_y2 := Lib.hid (o_y2.out.below hb9)
  replace HB := Lib.hid (HB.out.trans (hb9.mono HB.out.size))
  have B_y2 := Lib.hid hn9
  have t9 := Lib.hid (lt_of hn9)
  clear hn9 hb9
  obtain ⟨c_a0_0, c_a0_1⟩ := cells2 B_a0.out
  have l_a0 := lt_of B_a0.out
  obtain ⟨c_a2_0, c_a2_1⟩ := cells2 B_a2.out
  have l_a2 := lt_of B_a2.out
  obtain ⟨c_r_0, c_r_1⟩ := cells2 B_r.out
  have l_r := lt_of B_r.out
  obtain ⟨c_y0_0, c_y0_1⟩ := cells2 B_y0.out
  have l_y0 := lt_of B_y0.out
  obtain ⟨c_y2_0, c_y2_1⟩ := cells2 B_y2.out
  have l_y2 := lt_of B_y2.out
  go_wp2_with fail
  go_at_call 27
  refine (iexpnet_any _ x0 x1 _ x2 _ o_y0.out.v h1 o_y2.out.v).mono ?_
  rintro e w10 ⟨v_g0, rfl, o_g, hb10⟩
  have s10 := Lib.hid (show w9.heap.size ≤ w10.heap.size from hb10.size)
  clear c_a0_0 c_a0_1 l_a0
  clear c_a2_0 c_a2_1 l_a2
  clear c_r_0 c_r_1 l_r
  clear c_y0_0 c_y0_1 l_y0
  clear c_y2_0 c_y2_1 l_y2
  replace B_a0 := Lib.hid (blk_in B_a0.out hb10)
  replace B_a2 := Lib.hid (blk_in B_a2.out hb10)
  replace B_r := Lib.hid (blk_in B_r.out hb10)
  replace B_y0 := Lib.hid (blk_in B_y0.out hb10)
  replace B_y2 := Lib.hid (blk_in B_y2.out hb10)
  replace o_r := Lib.hid (o_r.out.below hb10)
  replace o_y0 := Lib.hid (o_y0.out.below hb10)
  replace o_y2 := Lib.hid (o_y2.out.below hb10)
  replace HB := Lib.hid (HB.out.trans (hb10.mono HB.out.size))
  obtain ⟨a_g, b_g, c_g, d_g, rfl⟩ := o_g.shape
  replace o_g := Lib.hid o_g
  clear hb10
  obtain ⟨c_a0_0, c_a0_1⟩ := cells2 B_a0.out
  have l_a0 := lt_of B_a0.out
  obtain ⟨c_a2_0, c_a2_1⟩ := cells2 B_a2.out
  have l_a2 := lt_of B_a2.out
  obtain ⟨c_r_0, c_r_1⟩ := cells2 B_r.out
  have l_r := lt_of B_r.out
  obtain ⟨c_y0_0, c_y0_1⟩ := cells2 B_y0.out
  have l_y0 := lt_of B_y0.out
  obtain ⟨c_y2_0, c_y2_1⟩ := cells2 B_y2.out
  have l_y2 := lt_of B_y2.out
  go_wp2_with fail
  generalize hw11 : w10.alloc (.cells #[.slice a_g (expandNetworkR0 x0 x1 x2).progs.length b_g, .slice c_g (expandNetworkR0 x0 x1 x2).links.length d_g] 31) = w11
  have hb11 : Below w10.heap.size w10 w11 := by rw [← hw11]; exact (Below.refl _ _).al _
  have hn11 : w11.heap[w10.heap.size]? = some (.cells #[.slice a_g (expandNetworkR0 x0 x1 x2).progs.length b_g, .slice c_g (expandNetworkR0 x0 x1 x2).links.length d_g] 31) := by rw [← hw11]; exact hp1 _ _
  clear hw11
  have s11 := Lib.hid (show w10.heap.size ≤ w11.heap.size from hb11.size)
  clear c_a0_0 c_a0_1 l_a0
  clear c_a2_0 c_a2_1 l_a2
  clear c_r_0 c_r_1 l_r
  clear c_y0_0 c_y0_1 l_y0
  clear c_y2_0 c_y2_1 l_y2
  replace B_a0 := Lib.hid (blk_in B_a0.out hb11)
  replace B_a2 := Lib.hid (blk_in B_a2.out hb11)
  replace B_r := Lib.hid (blk_in B_r.out hb11)
  replace B_y0 := Lib.hid (blk_in B_y0.out hb11)
  replace B_y2 := Lib.hid (blk_in B_y2.out hb11)
  replace o_r := Lib.hid (o_r.out.below hb11)
  replace o_y0 := Lib.hid (o_y0.out.below hb11)
  replace o_y2 := Lib.hid (o_y2.out.below hb11)
  replace o_g := Lib.hid (o_g.out.below hb11)
  replace HB := Lib.hid (HB.out.trans (hb11.mono HB.out.size))
  have B_g := Lib.hid hn11
  have t11 := Lib.hid (lt_of hn11)
  clear hn11 hb11
  obtain ⟨c_a0_0, c_a0_1⟩ := cells2 B_a0.out
  have l_a0 := lt_of B_a0.out
  obtain ⟨c_a2_0, c_a2_1⟩ := cells2 B_a2.out
  have l_a2 := lt_of B_a2.out
  obtain ⟨c_r_0, c_r_1⟩ := cells2 B_r.out
  have l_r := lt_of B_r.out
  obtain ⟨c_y0_0, c_y0_1⟩ := cells2 B_y0.out
  have l_y0 := lt_of B_y0.out
  obtain ⟨c_y2_0, c_y2_1⟩ := cells2 B_y2.out
  have l_y2 := lt_of B_y2.out
  obtain ⟨c_g_0, c_g_1⟩ := cells2 B_g.out
  have l_g := lt_of B_g.out
  go_at_call 17
  refine (eqNet_ok _ _ (expandNetworkR0 x0 x1 x2) _ o_g.out.v o_r.out.v).mono ?_
  rintro e w12 ⟨rfl, hb12⟩
  have s12 := Lib.hid (show w11.heap.size ≤ w12.heap.size from hb12.size)
  clear c_a0_0 c_a0_1 l_a0
  clear c_a2_0 c_a2_1 l_a2
  clear c_r_0 c_r_1 l_r
  clear c_y0_0 c_y0_1 l_y0
  clear c_y2_0 c_y2_1 l_y2
  clear c_g_0 c_g_1 l_g
  replace B_a0 := Lib.hid (blk_in B_a0.out hb12)
  replace B_a2 := Lib.hid (blk_in B_a2.out hb12)
  replace B_r := Lib.hid (blk_in B_r.out hb12)
  replace B_y0 := Lib.hid (blk_in B_y0.out hb12)
  replace B_y2 := Lib.hid (blk_in B_y2.out hb12)
  replace B_g := Lib.hid (blk_in B_g.out hb12)
  replace o_r := Lib.hid (o_r.out.below hb12)
  replace o_y0 := Lib.hid (o_y0.out.below hb12)
  replace o_y2 := Lib.hid (o_y2.out.below hb12)
  replace o_g := Lib.hid (o_g.out.below hb12)
  replace HB := Lib.hid (HB.out.trans (hb12.mono HB.out.size))
  clear hb12
  obtain ⟨c_a0_0, c_a0_1⟩ := cells2 B_a0.out
  have l_a0 := lt_of B_a0.out
  obtain ⟨c_a2_0, c_a2_1⟩ := cells2 B_a2.out
  have l_a2 := lt_of B_a2.out
  obtain ⟨c_r_0, c_r_1⟩ := cells2 B_r.out
  have l_r := lt_of B_r.out
  obtain ⟨c_y0_0, c_y0_1⟩ := cells2 B_y0.out
  have l_y0 := lt_of B_y0.out
  obtain ⟨c_y2_0, c_y2_1⟩ := cells2 B_y2.out
  have l_y2 := lt_of B_y2.out
  obtain ⟨c_g_0, c_g_1⟩ := cells2 B_g.out
  have l_g := lt_of B_g.out
  go_upto_region 14 with fail
  go_cut [62] from 124 (fun s wr => s = .bool false ∧ Hid (Below w12.heap.size w12 wr))
  case first =>
    go_region_held3 (fun w' => w'.cell? ⟨w.heap.size, 0, none⟩ = some (.slice pa0 (x0).progs.length pcap0) ∧ w'.cell? ⟨w.heap.size, 1, none⟩ = some (.slice la0 (x0).links.length lcap0) ∧ w'.cell? ⟨w6.heap.size, 0, none⟩ = some (.slice a_y0 (x0).progs.length (x0).progs.length) ∧ w'.cell? ⟨w6.heap.size, 1, none⟩ = some (.slice k_y0 (x0).links.length (x0).links.length)) (go_keep) (first | (go_at_call 14; refine (toNet_h _ x0 _ (HA0.out.below (HB.out.trans ((by first | with_reducible exact Below.refl _ _ | with_reducible exact (Below.refl _ _).drew : Below w12.heap.size w12 _).mono HB.out.size))) HS0.out).mono ?_; rintro e W7 ⟨v7, rfl, o7, hb7⟩; have hc7 := (show Below w12.heap.size w12 W7 by first | with_reducible exact hb7 | with_reducible exact cr_d hb7); have HC7 := Lib.hid hc7; have q_a0 := blk_in B_a0.out hc7; have q_y0 := blk_in B_y0.out hc7; obtain ⟨e7_a0_0, e7_a0_1⟩ := cells2 q_a0; have l7_a0 := lt_of q_a0; have Q7_a0 := Lib.hid q_a0; clear q_a0; obtain ⟨e7_y0_0, e7_y0_1⟩ := cells2 q_y0; have l7_y0 := lt_of q_y0; have Q7_y0 := Lib.hid q_y0; clear q_y0; have V7 := Lib.hid o7.v; have V6 := Lib.hid ((o_y0.out.below hc7).v); clear o7 hb7 hc7) | (go_at_call 17; refine (eqNet_ok _ _ x0 _ V6.out V7.out).mono ?_; rintro e W8 ⟨rfl, hb8⟩; have HC8 := Lib.hid (HC7.out.trans (hb8.mono HC7.out.size)); have q_a0 := blk_in Q7_a0.out hb8; have q_y0 := blk_in Q7_y0.out hb8; obtain ⟨e8_a0_0, e8_a0_1⟩ := cells2 q_a0; have l8_a0 := lt_of q_a0; have Q8_a0 := Lib.hid q_a0; clear q_a0; obtain ⟨e8_y0_0, e8_y0_1⟩ := cells2 q_y0; have l8_y0 := lt_of q_y0; have Q8_y0 := Lib.hid q_y0; clear q_y0; clear hb8))
    all_goals
      go_wp2_with fail
      go_meet
      case rel => exact ⟨rfl, HC8⟩
  rename World => w13
  obtain ⟨rfl, hb13⟩ := hcut
  replace hb13 := hb13.out
  have s13 := Lib.hid (show w12.heap.size ≤ w13.heap.size from hb13.size)
  clear c_a0_0 c_a0_1 l_a0
  clear c_a2_0 c_a2_1 l_a2
  clear c_r_0 c_r_1 l_r
  clear c_y0_0 c_y0_1 l_y0
  clear c_y2_0 c_y2_1 l_y2
  clear c_g_0 c_g_1 l_g
  replace B_a0 := Lib.hid (blk_in B_a0.out hb13)
  replace B_a2 := Lib.hid (blk_in B_a2.out hb13)
  replace B_r := Lib.hid (blk_in B_r.out hb13)
  replace B_y0 := Lib.hid (blk_in B_y0.out hb13)
  replace B_y2 := Lib.hid (blk_in B_y2.out hb13)
  replace B_g := Lib.hid (blk_in B_g.out hb13)
  replace o_r := Lib.hid (o_r.out.below hb13)
  replace o_y0 := Lib.hid (o_y0.out.below hb13)
  replace o_y2 := Lib.hid (o_y2.out.below hb13)
  replace o_g := Lib.hid (o_g.out.below hb13)
  replace HB := Lib.hid (HB.out.trans (hb13.mono HB.out.size))
  clear hb13
  obtain ⟨c_a0_0, c_a0_1⟩ := cells2 B_a0.out
  have l_a0 := lt_of B_a0.out
  obtain ⟨c_a2_0, c_a2_1⟩ := cells2 B_a2.out
  have l_a2 := lt_of B_a2.out
  obtain ⟨c_r_0, c_r_1⟩ := cells2 B_r.out
  have l_r := lt_of B_r.out
  obtain ⟨c_y0_0, c_y0_1⟩ := cells2 B_y0.out
  have l_y0 := lt_of B_y0.out
  obtain ⟨c_y2_0, c_y2_1⟩ := cells2 B_y2.out
  have l_y2 := lt_of B_y2.out
  obtain ⟨c_g_0, c_g_1⟩ := cells2 B_g.out
  have l_g := lt_of B_g.out
  go_upto_region 16 with fail
  go_cut [67] from 124 (fun s wr => s = .bool false ∧ Hid (Below w13.heap.size w13 wr))
  case first =>
    go_region_held3 (fun w' => w'.cell? ⟨w1.heap.size, 0, none⟩ = some (.slice pa2 (x2).progs.length pcap2) ∧ w'.cell? ⟨w1.heap.size, 1, none⟩ = some (.slice la2 (x2).links.length lcap2) ∧ w'.cell? ⟨w8.heap.size, 0, none⟩ = some (.slice a_y2 (x2).progs.length (x2).progs.length) ∧ w'.cell? ⟨w8.heap.size, 1, none⟩ = some (.slice k_y2 (x2).links.length (x2).links.length)) (go_keep) (first | (go_at_call 14; refine (toNet_h _ x2 _ (HA2.out.below (HB.out.trans ((by first | with_reducible exact Below.refl _ _ | with_reducible exact (Below.refl _ _).drew : Below w13.heap.size w13 _).mono HB.out.size))) HS2.out).mono ?_; rintro e W7 ⟨v7, rfl, o7, hb7⟩; have hc7 := (show Below w13.heap.size w13 W7 by first | with_reducible exact hb7 | with_reducible exact cr_d hb7); have HC7 := Lib.hid hc7; have q_a2 := blk_in B_a2.out hc7; have q_y2 := blk_in B_y2.out hc7; obtain ⟨e7_a2_0, e7_a2_1⟩ := cells2 q_a2; have l7_a2 := lt_of q_a2; have Q7_a2 := Lib.hid q_a2; clear q_a2; obtain ⟨e7_y2_0, e7_y2_1⟩ := cells2 q_y2; have l7_y2 := lt_of q_y2; have Q7_y2 := Lib.hid q_y2; clear q_y2; have V7 := Lib.hid o7.v; have V6 := Lib.hid ((o_y2.out.below hc7).v); clear o7 hb7 hc7) | (go_at_call 17; refine (eqNet_ok _ _ x2 _ V6.out V7.out).mono ?_; rintro e W8 ⟨rfl, hb8⟩; have HC8 := Lib.hid (HC7.out.trans (hb8.mono HC7.out.size)); have q_a2 := blk_in Q7_a2.out hb8; have q_y2 := blk_in Q7_y2.out hb8; obtain ⟨e8_a2_0, e8_a2_1⟩ := cells2 q_a2; have l8_a2 := lt_of q_a2; have Q8_a2 := Lib.hid q_a2; clear q_a2; obtain ⟨e8_y2_0, e8_y2_1⟩ := cells2 q_y2; have l8_y2 := lt_of q_y2; have Q8_y2 := Lib.hid q_y2; clear q_y2; clear hb8))
    all_goals
      go_wp2_with fail
      go_meet
      case rel => exact ⟨rfl, HC8⟩
  rename World => w14
  obtain ⟨rfl, hb14⟩ := hcut
  replace hb14 := hb14.out
  have s14 := Lib.hid (show w13.heap.size ≤ w14.heap.size from hb14.size)
  clear c_a0_0 c_a0_1 l_a0
  clear c_a2_0 c_a2_1 l_a2
  clear c_r_0 c_r_1 l_r
  clear c_y0_0 c_y0_1 l_y0
  clear c_y2_0 c_y2_1 l_y2
  clear c_g_0 c_g_1 l_g
  replace B_a0 := Lib.hid (blk_in B_a0.out hb14)
  replace B_a2 := Lib.hid (blk_in B_a2.out hb14)
  replace B_r := Lib.hid (blk_in B_r.out hb14)
  replace B_y0 := Lib.hid (blk_in B_y0.out hb14)
  replace B_y2 := Lib.hid (blk_in B_y2.out hb14)
  replace B_g := Lib.hid (blk_in B_g.out hb14)
  replace o_r := Lib.hid (o_r.out.below hb14)
  replace o_y0 := Lib.hid (o_y0.out.below hb14)
  replace o_y2 := Lib.hid (o_y2.out.below hb14)
  replace o_g := Lib.hid (o_g.out.below hb14)
  replace HB := Lib.hid (HB.out.trans (hb14.mono HB.out.size))
  clear hb14
  obtain ⟨c_a0_0, c_a0_1⟩ := cells2 B_a0.out
  have l_a0 := lt_of B_a0.out
  obtain ⟨c_a2_0, c_a2_1⟩ := cells2 B_a2.out
  have l_a2 := lt_of B_a2.out
  obtain ⟨c_r_0, c_r_1⟩ := cells2 B_r.out
  have l_r := lt_of B_r.out
  obtain ⟨c_y0_0, c_y0_1⟩ := cells2 B_y0.out
  have l_y0 := lt_of B_y0.out
  obtain ⟨c_y2_0, c_y2_1⟩ := cells2 B_y2.out
  have l_y2 := lt_of B_y2.out
  obtain ⟨c_g_0, c_g_1⟩ := cells2 B_g.out
  have l_g := lt_of B_g.out
  go_wp2_with fail
  go_at_call 19
  refine (markNet_h (w5.heap.size) (w6.heap.size) _ x0 (1) _ o_y0.out (by omega) (by have := HS0.out; have := HS2.out; have := stN_le x0; have := stN_le x2; omega)).mono ?_
  rintro e w15 ⟨rfl, hO15⟩
  have s15 := Lib.hid (show w14.heap.size ≤ w15.heap.size from hO15.size)
  clear c_a0_0 c_a0_1 l_a0
  clear c_a2_0 c_a2_1 l_a2
  clear c_r_0 c_r_1 l_r
  clear c_y0_0 c_y0_1 l_y0
  clear c_y2_0 c_y2_1 l_y2
  clear c_g_0 c_g_1 l_g
  replace B_a0 := Lib.hid (hO15.blk B_a0.out (by have := s1.out; have := t1.out; have := s2.out; have := t2.out; have := s3.out; have := s4.out; have := s5.out; have := tb_r.out; have := s6.out; have := s7.out; have := t7.out; have := s8.out; have := s9.out; have := t9.out; have := s10.out; have := s11.out; have := t11.out; have := s12.out; have := s13.out; have := s14.out; omega))
  replace B_a2 := Lib.hid (hO15.blk B_a2.out (by have := s1.out; have := t1.out; have := s2.out; have := t2.out; have := s3.out; have := s4.out; have := s5.out; have := tb_r.out; have := s6.out; have := s7.out; have := t7.out; have := s8.out; have := s9.out; have := t9.out; have := s10.out; have := s11.out; have := t11.out; have := s12.out; have := s13.out; have := s14.out; omega))
  replace B_r := Lib.hid (hO15.blk B_r.out (by have := s1.out; have := t1.out; have := s2.out; have := t2.out; have := s3.out; have := s4.out; have := s5.out; have := tb_r.out; have := s6.out; have := s7.out; have := t7.out; have := s8.out; have := s9.out; have := t9.out; have := s10.out; have := s11.out; have := t11.out; have := s12.out; have := s13.out; have := s14.out; omega))
  replace B_y0 := Lib.hid (hO15.blk B_y0.out (by have := s1.out; have := t1.out; have := s2.out; have := t2.out; have := s3.out; have := s4.out; have := s5.out; have := tb_r.out; have := s6.out; have := s7.out; have := t7.out; have := s8.out; have := s9.out; have := t9.out; have := s10.out; have := s11.out; have := t11.out; have := s12.out; have := s13.out; have := s14.out; omega))
  replace B_y2 := Lib.hid (hO15.blk B_y2.out (by have := s1.out; have := t1.out; have := s2.out; have := t2.out; have := s3.out; have := s4.out; have := s5.out; have := tb_r.out; have := s6.out; have := s7.out; have := t7.out; have := s8.out; have := s9.out; have := t9.out; have := s10.out; have := s11.out; have := t11.out; have := s12.out; have := s13.out; have := s14.out; omega))
  replace B_g := Lib.hid (hO15.blk B_g.out (by have := s1.out; have := t1.out; have := s2.out; have := t2.out; have := s3.out; have := s4.out; have := s5.out; have := tb_r.out; have := s6.out; have := s7.out; have := t7.out; have := s8.out; have := s9.out; have := t9.out; have := s10.out; have := s11.out; have := t11.out; have := s12.out; have := s13.out; have := s14.out; omega))
  replace o_r := Lib.hid (o_r.out.out hO15 (by have := s1.out; have := t1.out; have := s2.out; have := t2.out; have := s3.out; have := s4.out; have := s5.out; have := tb_r.out; have := s6.out; have := s7.out; have := t7.out; have := s8.out; have := s9.out; have := t9.out; have := s10.out; have := s11.out; have := t11.out; have := s12.out; have := s13.out; have := s14.out; omega))
  replace o_y2 := Lib.hid (NetH.outLo o_y2.out hO15 (by have := s1.out; have := t1.out; have := s2.out; have := t2.out; have := s3.out; have := s4.out; have := s5.out; have := tb_r.out; have := s6.out; have := s7.out; have := t7.out; have := s8.out; have := s9.out; have := t9.out; have := s10.out; have := s11.out; have := t11.out; have := s12.out; have := s13.out; have := s14.out; omega))
  replace o_g := Lib.hid (o_g.out.out hO15 (by have := s1.out; have := t1.out; have := s2.out; have := t2.out; have := s3.out; have := s4.out; have := s5.out; have := tb_r.out; have := s6.out; have := s7.out; have := t7.out; have := s8.out; have := s9.out; have := t9.out; have := s10.out; have := s11.out; have := t11.out; have := s12.out; have := s13.out; have := s14.out; omega))
  replace HB := Lib.hid (hO15.below HB.out HB.out.size (by have := s1.out; have := t1.out; have := s2.out; have := t2.out; have := s3.out; have := s4.out; have := s5.out; have := tb_r.out; have := s6.out; have := s7.out; have := t7.out; have := s8.out; have := s9.out; have := t9.out; have := s10.out; have := s11.out; have := t11.out; have := s12.out; have := s13.out; have := s14.out; omega))
  clear hO15
  obtain ⟨c_a0_0, c_a0_1⟩ := cells2 B_a0.out
  have l_a0 := lt_of B_a0.out
  obtain ⟨c_a2_0, c_a2_1⟩ := cells2 B_a2.out
  have l_a2 := lt_of B_a2.out
  obtain ⟨c_r_0, c_r_1⟩ := cells2 B_r.out
  have l_r := lt_of B_r.out
  obtain ⟨c_y0_0, c_y0_1⟩ := cells2 B_y0.out
  have l_y0 := lt_of B_y0.out
  obtain ⟨c_y2_0, c_y2_1⟩ := cells2 B_y2.out
  have l_y2 := lt_of B_y2.out
  obtain ⟨c_g_0, c_g_1⟩ := cells2 B_g.out
  have l_g := lt_of B_g.out
  clear o_y0
  go_wp2_with fail
  go_at_call 19
  refine (markNet_h (w7.heap.size) (w8.heap.size) _ x2 (1 + ((stN x0 : Nat) : Int)) _ o_y2.out (by omega) (by have := HS0.out; have := HS2.out; have := stN_le x0; have := stN_le x2; omega)).mono ?_
  rintro e w16 ⟨rfl, hO16⟩
  have s16 := Lib.hid (show w15.heap.size ≤ w16.heap.size from hO16.size)
  clear c_a0_0 c_a0_1 l_a0
  clear c_a2_0 c_a2_1 l_a2
  clear c_r_0 c_r_1 l_r
  clear c_y0_0 c_y0_1 l_y0
  clear c_y2_0 c_y2_1 l_y2
  clear c_g_0 c_g_1 l_g
  replace B_a0 := Lib.hid (hO16.blk B_a0.out (by have := s1.out; have := t1.out; have := s2.out; have := t2.out; have := s3.out; have := s4.out; have := s5.out; have := tb_r.out; have := s6.out; have := s7.out; have := t7.out; have := s8.out; have := s9.out; have := t9.out; have := s10.out; have := s11.out; have := t11.out; have := s12.out; have := s13.out; have := s14.out; have := s15.out; omega))
  replace B_a2 := Lib.hid (hO16.blk B_a2.out (by have := s1.out; have := t1.out; have := s2.out; have := t2.out; have := s3.out; have := s4.out; have := s5.out; have := tb_r.out; have := s6.out; have := s7.out; have := t7.out; have := s8.out; have := s9.out; have := t9.out; have := s10.out; have := s11.out; have := t11.out; have := s12.out; have := s13.out; have := s14.out; have := s15.out; omega))
  replace B_r := Lib.hid (hO16.blk B_r.out (by have := s1.out; have := t1.out; have := s2.out; have := t2.out; have := s3.out; have := s4.out; have := s5.out; have := tb_r.out; have := s6.out; have := s7.out; have := t7.out; have := s8.out; have := s9.out; have := t9.out; have := s10.out; have := s11.out; have := t11.out; have := s12.out; have := s13.out; have := s14.out; have := s15.out; omega))
  replace B_y0 := Lib.hid (hO16.blk B_y0.out (by have := s1.out; have := t1.out; have := s2.out; have := t2.out; have := s3.out; have := s4.out; have := s5.out; have := tb_r.out; have := s6.out; have := s7.out; have := t7.out; have := s8.out; have := s9.out; have := t9.out; have := s10.out; have := s11.out; have := t11.out; have := s12.out; have := s13.out; have := s14.out; have := s15.out; omega))
  replace B_y2 := Lib.hid (hO16.blk B_y2.out (by have := s1.out; have := t1.out; have := s2.out; have := t2.out; have := s3.out; have := s4.out; have := s5.out; have := tb_r.out; have := s6.out; have := s7.out; have := t7.out; have := s8.out; have := s9.out; have := t9.out; have := s10.out; have := s11.out; have := t11.out; have := s12.out; have := s13.out; have := s14.out; have := s15.out; omega))
  replace B_g := Lib.hid (hO16.blk B_g.out (by have := s1.out; have := t1.out; have := s2.out; have := t2.out; have := s3.out; have := s4.out; have := s5.out; have := tb_r.out; have := s6.out; have := s7.out; have := t7.out; have := s8.out; have := s9.out; have := t9.out; have := s10.out; have := s11.out; have := t11.out; have := s12.out; have := s13.out; have := s14.out; have := s15.out; omega))
  replace o_r := Lib.hid (o_r.out.out hO16 (by have := s1.out; have := t1.out; have := s2.out; have := t2.out; have := s3.out; have := s4.out; have := s5.out; have := tb_r.out; have := s6.out; have := s7.out; have := t7.out; have := s8.out; have := s9.out; have := t9.out; have := s10.out; have := s11.out; have := t11.out; have := s12.out; have := s13.out; have := s14.out; have := s15.out; omega))
  replace o_g := Lib.hid (o_g.out.out hO16 (by have := s1.out; have := t1.out; have := s2.out; have := t2.out; have := s3.out; have := s4.out; have := s5.out; have := tb_r.out; have := s6.out; have := s7.out; have := t7.out; have := s8.out; have := s9.out; have := t9.out; have := s10.out; have := s11.out; have := t11.out; have := s12.out; have := s13.out; have := s14.out; have := s15.out; omega))
  replace HB := Lib.hid (hO16.below HB.out HB.out.size (by have := s1.out; have := t1.out; have := s2.out; have := t2.out; have := s3.out; have := s4.out; have := s5.out; have := tb_r.out; have := s6.out; have := s7.out; have := t7.out; have := s8.out; have := s9.out; have := t9.out; have := s10.out; have := s11.out; have := t11.out; have := s12.out; have := s13.out; have := s14.out; have := s15.out; omega))
  clear hO16
  obtain ⟨c_a0_0, c_a0_1⟩ := cells2 B_a0.out
  have l_a0 := lt_of B_a0.out
  obtain ⟨c_a2_0, c_a2_1⟩ := cells2 B_a2.out
  have l_a2 := lt_of B_a2.out
  obtain ⟨c_r_0, c_r_1⟩ := cells2 B_r.out
  have l_r := lt_of B_r.out
  obtain ⟨c_y0_0, c_y0_1⟩ := cells2 B_y0.out
  have l_y0 := lt_of B_y0.out
  obtain ⟨c_y2_0, c_y2_1⟩ := cells2 B_y2.out
  have l_y2 := lt_of B_y2.out
  obtain ⟨c_g_0, c_g_1⟩ := cells2 B_g.out
  have l_g := lt_of B_g.out
  clear o_y2
  have dk : decide (1 + ((stN x0 : Nat) : Int) + ((stN x2 : Nat) : Int) < 0) = false := decide_eq_false (by omega)
  go_wp2_with fail
  go_at_call 17
  refine (eqNet_ok _ _ (expandNetworkR0 x0 x1 x2) _ o_g.out.v o_r.out.v).mono ?_
  rintro e w17 ⟨rfl, hb17⟩
  have s17 := Lib.hid (show w16.heap.size ≤ w17.heap.size from hb17.size)
  clear c_a0_0 c_a0_1 l_a0
  clear c_a2_0 c_a2_1 l_a2
  clear c_r_0 c_r_1 l_r
  clear c_y0_0 c_y0_1 l_y0
  clear c_y2_0 c_y2_1 l_y2
  clear c_g_0 c_g_1 l_g
  replace B_a0 := Lib.hid (blk_in B_a0.out hb17)
  replace B_a2 := Lib.hid (blk_in B_a2.out hb17)
  replace B_r := Lib.hid (blk_in B_r.out hb17)
  replace B_y0 := Lib.hid (blk_in B_y0.out hb17)
  replace B_y2 := Lib.hid (blk_in B_y2.out hb17)
  replace B_g := Lib.hid (blk_in B_g.out hb17)
  replace o_r := Lib.hid (o_r.out.below hb17)
  replace o_g := Lib.hid (o_g.out.below hb17)
  replace HB := Lib.hid (HB.out.trans (hb17.mono HB.out.size))
  clear hb17
  obtain ⟨c_a0_0, c_a0_1⟩ := cells2 B_a0.out
  have l_a0 := lt_of B_a0.out
  obtain ⟨c_a2_0, c_a2_1⟩ := cells2 B_a2.out
  have l_a2 := lt_of B_a2.out
  obtain ⟨c_r_0, c_r_1⟩ := cells2 B_r.out
  have l_r := lt_of B_r.out
  obtain ⟨c_y0_0, c_y0_1⟩ := cells2 B_y0.out
  have l_y0 := lt_of B_y0.out
  obtain ⟨c_y2_0, c_y2_1⟩ := cells2 B_y2.out
  have l_y2 := lt_of B_y2.out
  obtain ⟨c_g_0, c_g_1⟩ := cells2 B_g.out
  have l_g := lt_of B_g.out
  go_wp2_with fail
  go_at_call 19
  refine (markNet_r (w9.heap.size) (w10.heap.size) _ (expandNetworkR0 x0 x1 x2) (1) _ o_g.out (by have := s1.out; have := t1.out; have := s2.out; have := t2.out; have := s3.out; have := s4.out; have := s5.out; have := tb_r.out; have := s6.out; have := s7.out; have := t7.out; have := s8.out; have := s9.out; have := t9.out; have := s10.out; have := s11.out; have := t11.out; have := s12.out; have := s13.out; have := s14.out; have := s15.out; have := s16.out; have := s17.out; omega) (by omega) (by have := BD.out; have := HS0.out; have := HS2.out; have := stN_le x0; have := stN_le x2; omega)).mono ?_
  rintro e w18 ⟨rfl, m_g, hO18⟩
  have s18 := Lib.hid (show w17.heap.size ≤ w18.heap.size from hO18.size)
  clear c_a0_0 c_a0_1 l_a0
  clear c_a2_0 c_a2_1 l_a2
  clear c_r_0 c_r_1 l_r
  clear c_y0_0 c_y0_1 l_y0
  clear c_y2_0 c_y2_1 l_y2
  clear c_g_0 c_g_1 l_g
  replace B_a0 := Lib.hid (hO18.blk B_a0.out (by have := s1.out; have := t1.out; have := s2.out; have := t2.out; have := s3.out; have := s4.out; have := s5.out; have := tb_r.out; have := s6.out; have := s7.out; have := t7.out; have := s8.out; have := s9.out; have := t9.out; have := s10.out; have := s11.out; have := t11.out; have := s12.out; have := s13.out; have := s14.out; have := s15.out; have := s16.out; have := s17.out; omega))
  replace B_a2 := Lib.hid (hO18.blk B_a2.out (by have := s1.out; have := t1.out; have := s2.out; have := t2.out; have := s3.out; have := s4.out; have := s5.out; have := tb_r.out; have := s6.out; have := s7.out; have := t7.out; have := s8.out; have := s9.out; have := t9.out; have := s10.out; have := s11.out; have := t11.out; have := s12.out; have := s13.out; have := s14.out; have := s15.out; have := s16.out; have := s17.out; omega))
  replace B_r := Lib.hid (hO18.blk B_r.out (by have := s1.out; have := t1.out; have := s2.out; have := t2.out; have := s3.out; have := s4.out; have := s5.out; have := tb_r.out; have := s6.out; have := s7.out; have := t7.out; have := s8.out; have := s9.out; have := t9.out; have := s10.out; have := s11.out; have := t11.out; have := s12.out; have := s13.out; have := s14.out; have := s15.out; have := s16.out; have := s17.out; omega))
  replace B_y0 := Lib.hid (hO18.blk B_y0.out (by have := s1.out; have := t1.out; have := s2.out; have := t2.out; have := s3.out; have := s4.out; have := s5.out; have := tb_r.out; have := s6.out; have := s7.out; have := t7.out; have := s8.out; have := s9.out; have := t9.out; have := s10.out; have := s11.out; have := t11.out; have := s12.out; have := s13.out; have := s14.out; have := s15.out; have := s16.out; have := s17.out; omega))
  replace B_y2 := Lib.hid (hO18.blk B_y2.out (by have := s1.out; have := t1.out; have := s2.out; have := t2.out; have := s3.out; have := s4.out; have := s5.out; have := tb_r.out; have := s6.out; have := s7.out; have := t7.out; have := s8.out; have := s9.out; have := t9.out; have := s10.out; have := s11.out; have := t11.out; have := s12.out; have := s13.out; have := s14.out; have := s15.out; have := s16.out; have := s17.out; omega))
  replace B_g := Lib.hid (hO18.blk B_g.out (by have := s1.out; have := t1.out; have := s2.out; have := t2.out; have := s3.out; have := s4.out; have := s5.out; have := tb_r.out; have := s6.out; have := s7.out; have := t7.out; have := s8.out; have := s9.out; have := t9.out; have := s10.out; have := s11.out; have := t11.out; have := s12.out; have := s13.out; have := s14.out; have := s15.out; have := s16.out; have := s17.out; omega))
  replace o_r := Lib.hid (o_r.out.out hO18 (by have := s1.out; have := t1.out; have := s2.out; have := t2.out; have := s3.out; have := s4.out; have := s5.out; have := tb_r.out; have := s6.out; have := s7.out; have := t7.out; have := s8.out; have := s9.out; have := t9.out; have := s10.out; have := s11.out; have := t11.out; have := s12.out; have := s13.out; have := s14.out; have := s15.out; have := s16.out; have := s17.out; omega))
  replace HB := Lib.hid (hO18.below HB.out HB.out.size (by have := s1.out; have := t1.out; have := s2.out; have := t2.out; have := s3.out; have := s4.out; have := s5.out; have := tb_r.out; have := s6.out; have := s7.out; have := t7.out; have := s8.out; have := s9.out; have := t9.out; have := s10.out; have := s11.out; have := t11.out; have := s12.out; have := s13.out; have := s14.out; have := s15.out; have := s16.out; have := s17.out; omega))
  clear o_g
  have o_g := Lib.hid m_g
  clear m_g
  clear hO18
  obtain ⟨c_a0_0, c_a0_1⟩ := cells2 B_a0.out
  have l_a0 := lt_of B_a0.out
  obtain ⟨c_a2_0, c_a2_1⟩ := cells2 B_a2.out
  have l_a2 := lt_of B_a2.out
  obtain ⟨c_r_0, c_r_1⟩ := cells2 B_r.out
  have l_r := lt_of B_r.out
  obtain ⟨c_y0_0, c_y0_1⟩ := cells2 B_y0.out
  have l_y0 := lt_of B_y0.out
  obtain ⟨c_y2_0, c_y2_1⟩ := cells2 B_y2.out
  have l_y2 := lt_of B_y2.out
  obtain ⟨c_g_0, c_g_1⟩ := cells2 B_g.out
  have l_g := lt_of B_g.out
  have dm0 : decide (1 + (((stN (expandNetworkR0 x0 x1 x2) : Nat) : Int)) < 0) = false := decide_eq_false (by omega)
  go_wp2_with fail
  go_at_call 21
  refine (heldNet_r _ (expandNetworkR0 x0 x1 x2) (1) _ o_g.out.v (by omega) (by have := BD.out; have := HS0.out; have := HS2.out; have := stN_le x0; have := stN_le x2; omega)).mono ?_
  rintro e w19 ⟨rfl, hb19⟩
  have s19 := Lib.hid (show w18.heap.size ≤ w19.heap.size from hb19.size)
  clear c_a0_0 c_a0_1 l_a0
  clear c_a2_0 c_a2_1 l_a2
  clear c_r_0 c_r_1 l_r
  clear c_y0_0 c_y0_1 l_y0
  clear c_y2_0 c_y2_1 l_y2
  clear c_g_0 c_g_1 l_g
  replace B_a0 := Lib.hid (blk_in B_a0.out hb19)
  replace B_a2 := Lib.hid (blk_in B_a2.out hb19)
  replace B_r := Lib.hid (blk_in B_r.out hb19)
  replace B_y0 := Lib.hid (blk_in B_y0.out hb19)
  replace B_y2 := Lib.hid (blk_in B_y2.out hb19)
  replace B_g := Lib.hid (blk_in B_g.out hb19)
  replace o_r := Lib.hid (o_r.out.below hb19)
  replace o_g := Lib.hid (o_g.out.below hb19)
  replace HB := Lib.hid (HB.out.trans (hb19.mono HB.out.size))
  clear hb19
  obtain ⟨c_a0_0, c_a0_1⟩ := cells2 B_a0.out
  have l_a0 := lt_of B_a0.out
  obtain ⟨c_a2_0, c_a2_1⟩ := cells2 B_a2.out
  have l_a2 := lt_of B_a2.out
  obtain ⟨c_r_0, c_r_1⟩ := cells2 B_r.out
  have l_r := lt_of B_r.out
  obtain ⟨c_y0_0, c_y0_1⟩ := cells2 B_y0.out
  have l_y0 := lt_of B_y0.out
  obtain ⟨c_y2_0, c_y2_1⟩ := cells2 B_y2.out
  have l_y2 := lt_of B_y2.out
  obtain ⟨c_g_0, c_g_1⟩ := cells2 B_g.out
  have l_g := lt_of B_g.out
  go_upto_region 31 with fail
  go_cut [17, 18] from 124 (fun s17 s18 wr => ∃ (a_u : Option Addr) (b_u : Nat) (c_u : Option Addr) (d_u bg_u : Nat), s17 = .pointer (some ⟨bg_u, 0, none⟩) ∧ s18 = .bool (expB x0 x1 x2) ∧ Hid (wr.heap[bg_u]? = some (.cells #[.slice a_u (expandNetworkR0 x0 x1 x2).progs.length b_u, .slice c_u (expandNetworkR0 x0 x1 x2).links.length d_u] 31)) ∧ Hid (NetR w19.heap.size wr.heap.size wr (.agg #[.slice a_u (expandNetworkR0 x0 x1 x2).progs.length b_u, .slice c_u (expandNetworkR0 x0 x1 x2).links.length d_u]) (expandNetworkR0 x0 x1 x2)) ∧ Hid (Below w19.heap.size w19 wr))
  case first =>
    go_region_held3 (fun w' => w'.cell? ⟨w.heap.size, 0, none⟩ = some (.slice pa0 (x0).progs.length pcap0) ∧ w'.cell? ⟨w.heap.size, 1, none⟩ = some (.slice la0 (x0).links.length lcap0) ∧ w'.cell? ⟨w1.heap.size, 0, none⟩ = some (.slice pa2 (x2).progs.length pcap2) ∧ w'.cell? ⟨w1.heap.size, 1, none⟩ = some (.slice la2 (x2).links.length lcap2)) (go_keep) (first | (go_at_call 14; (with_reducible refine (toNet_h _ x0 _ (HA0.out.below (HB.out.trans ((by first | with_reducible exact (Below.refl _ _) | with_reducible exact (Below.refl _ _).drew | with_reducible exact (Below.refl _ _).al _ | with_reducible exact ((Below.refl _ _).al _).drew | with_reducible exact (Below.refl _ _).drew.al _ : Below w19.heap.size w19 _).mono HB.out.size))) HS0.out).mono ?_); rintro e X70 ⟨v70, rfl, ot70, hx70⟩; have hs70 := (show Below w19.heap.size w19 _ by exact (by first | with_reducible exact (Below.refl _ _) | with_reducible exact (Below.refl _ _).drew | with_reducible exact (Below.refl _ _).al _ | with_reducible exact ((Below.refl _ _).al _).drew | with_reducible exact (Below.refl _ _).drew.al _)).trans (hx70.mono (by simp <;> omega)); have HC70 := Lib.hid hs70; (try (have zA := Lib.hid (show X70.heap[w19.heap.size]? = some (.cells #[.slice none 0 0, .slice none 0 0] 31) by first | exact blk_in (W := (w19.alloc (.cells #[.slice none 0 0, .slice none 0 0] 31)).drew) (hp1 w19 _) hx70 | exact blk_in (W := w19.alloc (.cells #[.slice none 0 0, .slice none 0 0] 31)) (hp1 w19 _) hx70 | exact blk_in (W := (World.drew w19).alloc (.cells #[.slice none 0 0, .slice none 0 0] 31)) (hp1 (World.drew w19) _) hx70); have nA := lt_of zA.out)); have Q70_a0 := Lib.hid (blk_in B_a0.out hs70); obtain ⟨e70_a0_0, e70_a0_1⟩ := cells2 Q70_a0.out; have l70_a0 := lt_of Q70_a0.out; have Q70_a2 := Lib.hid (blk_in B_a2.out hs70); obtain ⟨e70_a2_0, e70_a2_1⟩ := cells2 Q70_a2.out; have l70_a2 := lt_of Q70_a2.out; obtain ⟨ra70, rb70, rfl⟩ := ot70.shape; have T0_70 := Lib.hid ot70; clear ot70 hx70 hs70) | (go_at_call 14; (with_reducible refine (toNet_h _ x2 _ (HA2.out.below (HB.out.trans ((by first | with_reducible exact HC70.out | with_reducible exact HC70.out.drew | with_reducible exact HC70.out.al _ | with_reducible exact (HC70.out.al _).drew | with_reducible exact HC70.out.drew.al _ : Below w19.heap.size w19 _).mono HB.out.size))) HS2.out).mono ?_); rintro e X72 ⟨v72, rfl, ot72, hx72⟩; have hs72 := (show Below X70.heap.size X70 _ by exact (by first | with_reducible exact (Below.refl _ _) | with_reducible exact (Below.refl _ _).drew | with_reducible exact (Below.refl _ _).al _ | with_reducible exact ((Below.refl _ _).al _).drew | with_reducible exact (Below.refl _ _).drew.al _)).trans (hx72.mono (by simp <;> omega)); have HC72 := Lib.hid (HC70.out.trans (hs72.mono HC70.out.size)); have s_72 : X70.heap.size ≤ X72.heap.size := hs72.size; (try (replace zA := Lib.hid (blk_in zA.out hs72))); (try (have zB := Lib.hid (show X72.heap[X70.heap.size]? = some (.cells #[.slice none 0 0, .slice none 0 0] 31) by first | exact blk_in (W := (X70.alloc (.cells #[.slice none 0 0, .slice none 0 0] 31)).drew) (hp1 X70 _) hx72 | exact blk_in (W := X70.alloc (.cells #[.slice none 0 0, .slice none 0 0] 31)) (hp1 X70 _) hx72 | exact blk_in (W := (World.drew X70).alloc (.cells #[.slice none 0 0, .slice none 0 0] 31)) (hp1 (World.drew X70) _) hx72); have nB := lt_of zB.out)); have Q72_a0 := Lib.hid (blk_in Q70_a0.out hs72); obtain ⟨e72_a0_0, e72_a0_1⟩ := cells2 Q72_a0.out; have l72_a0 := lt_of Q72_a0.out; have Q72_a2 := Lib.hid (blk_in Q70_a2.out hs72); obtain ⟨e72_a2_0, e72_a2_1⟩ := cells2 Q72_a2.out; have l72_a2 := lt_of Q72_a2.out; have T0_72 := Lib.hid (T0_70.out.below hs72); obtain ⟨ra72, rb72, rfl⟩ := ot72.shape; have T2_72 := Lib.hid ot72; clear ot72 hx72 hs72) | (go_at_call 27; refine (iexpnet_any _ x0 x1 _ x2 _ (by first | with_reducible exact T0_72.out.v | with_reducible exact (T0_72.out.below (Below.refl _ _).drew).v | with_reducible exact (T0_72.out.below ((Below.refl _ _).al _)).v | with_reducible exact (T0_72.out.below ((Below.refl _ _).al _).drew).v | with_reducible exact (T0_72.out.below ((Below.refl _ _).drew.al _)).v) h1 (by first | with_reducible exact T2_72.out.v | with_reducible exact (T2_72.out.below (Below.refl _ _).drew).v | with_reducible exact (T2_72.out.below ((Below.refl _ _).al _)).v | with_reducible exact (T2_72.out.below ((Below.refl _ _).al _).drew).v | with_reducible exact (T2_72.out.below ((Below.refl _ _).drew.al _)).v)).mono ?_; rintro e X79 ⟨v_u0, rfl, og, hx79⟩; have hs79 := (show Below X72.heap.size X72 _ by exact (by first | with_reducible exact (Below.refl _ _) | with_reducible exact (Below.refl _ _).drew | with_reducible exact (Below.refl _ _).al _ | with_reducible exact ((Below.refl _ _).al _).drew | with_reducible exact (Below.refl _ _).drew.al _)).trans (hx79.mono (by simp <;> omega)); have HC79 := Lib.hid (HC72.out.trans (hs79.mono HC72.out.size)); (try (replace zA := Lib.hid (blk_in zA.out hs79))); (try (replace zB := Lib.hid (blk_in zB.out hs79))); (try (have zC := Lib.hid (show X79.heap[X72.heap.size]? = some (.cells #[.slice none 0 0, .slice none 0 0] 31) by first | exact blk_in (W := (X72.alloc (.cells #[.slice none 0 0, .slice none 0 0] 31)).drew) (hp1 X72 _) hx79 | exact blk_in (W := X72.alloc (.cells #[.slice none 0 0, .slice none 0 0] 31)) (hp1 X72 _) hx79 | exact blk_in (W := (World.drew X72).alloc (.cells #[.slice none 0 0, .slice none 0 0] 31)) (hp1 (World.drew X72) _) hx79); have nC := lt_of zC.out)); have sz1 : w19.heap.size ≤ X70.heap.size := HC70.out.size; have sz2 : w19.heap.size ≤ X72.heap.size := HC72.out.size; have := (show ¬ w.heap.size = w19.heap.size by omega); have := (show ¬ w19.heap.size = w.heap.size by omega); have := (show ¬ w.heap.size = X70.heap.size by omega); have := (show ¬ X70.heap.size = w.heap.size by omega); have := (show ¬ w.heap.size = X72.heap.size by omega); have := (show ¬ X72.heap.size = w.heap.size by omega); have := (show ¬ w1.heap.size = w19.heap.size by omega); have := (show ¬ w19.heap.size = w1.heap.size by omega); have := (show ¬ w1.heap.size = X70.heap.size by omega); have := (show ¬ X70.heap.size = w1.heap.size by omega); have := (show ¬ w1.heap.size = X72.heap.size by omega); have := (show ¬ X72.heap.size = w1.heap.size by omega); (try (obtain ⟨yA0, yA1⟩ := cells2 zA.out; have ylA := lt_of zA.out; have yaA := fr_of zA.out 0; have ybA := fr_of zA.out 1)); (try (obtain ⟨yB0, yB1⟩ := cells2 zB.out; have ylB := lt_of zB.out; have yaB := fr_of zB.out 0; have ybB := fr_of zB.out 1)); (try (obtain ⟨yC0, yC1⟩ := cells2 zC.out; have ylC := lt_of zC.out; have yaC := fr_of zC.out 0; have ybC := fr_of zC.out 1)); have Q79_a0 := Lib.hid (blk_in Q72_a0.out hs79); obtain ⟨e79_a0_0, e79_a0_1⟩ := cells2 Q79_a0.out; have l79_a0 := lt_of Q79_a0.out; have Q79_a2 := Lib.hid (blk_in Q72_a2.out hs79); obtain ⟨e79_a2_0, e79_a2_1⟩ := cells2 Q79_a2.out; have l79_a2 := lt_of Q79_a2.out; have T0_79 := Lib.hid (T0_72.out.below hs79); have T2_79 := Lib.hid (T2_72.out.below hs79); obtain ⟨a_u, b_u, c_u, d_u, rfl⟩ := og.shape; have OG := Lib.hid (NetR.mono (lo' := X72.heap.size) og (by simp) (Nat.le_refl _)); (try (have OGC := Lib.hid (NetR.mono (lo' := X72.heap.size + 1) og (by simp) (Nat.le_refl _)))); clear og; clear hx79 hs79))
    all_goals
      go_wp2_with fail
      go_meet
      case rel =>
        refine ⟨a_u, b_u, c_u, d_u, _, rfl, rfl, ?_, ?_, ?_⟩
        · first | exact Lib.hid (hp1 _ _) | exact Lib.hid (set2_all zA.out _ _).1 | exact Lib.hid (set2_all (blk_in zA.out (Below.refl _ _).drew) _ _).1 | exact Lib.hid (set2_all zB.out _ _).1 | exact Lib.hid (set2_all (blk_in zB.out (Below.refl _ _).drew) _ _).1 | exact Lib.hid (set2_all zC.out _ _).1 | exact Lib.hid (set2_all (blk_in zC.out (Below.refl _ _).drew) _ _).1
        · first | exact Lib.hid ((OG.out.below ((Below.refl _ _).al _)).mono HC72.out.size ((Below.refl _ _).al _).size) | exact Lib.hid ((OG.out.below ((Below.refl _ _).drew.al _)).mono HC72.out.size ((Below.refl _ _).drew.al _).size) | exact Lib.hid ((OG.out.out (set2_all zA.out _ _).2 (.inr (Nat.le_trans nA s_72))).mono HC72.out.size (set2_all zA.out _ _).2.size) | exact Lib.hid (((OG.out.below (Below.refl _ _).drew).out (set2_all (blk_in zA.out (Below.refl _ _).drew) _ _).2 (.inr (Nat.le_trans nA s_72))).mono HC72.out.size (set2_all (blk_in zA.out (Below.refl _ _).drew) _ _).2.size) | exact Lib.hid ((OG.out.out (set2_all zB.out _ _).2 (.inr nB)).mono HC72.out.size (set2_all zB.out _ _).2.size) | exact Lib.hid (((OG.out.below (Below.refl _ _).drew).out (set2_all (blk_in zB.out (Below.refl _ _).drew) _ _).2 (.inr nB)).mono HC72.out.size (set2_all (blk_in zB.out (Below.refl _ _).drew) _ _).2.size) | exact Lib.hid ((OGC.out.out (set2_all zC.out _ _).2 (.inr (Nat.le_refl _))).mono (Nat.le_succ_of_le HC72.out.size) (set2_all zC.out _ _).2.size) | exact Lib.hid (((OGC.out.below (Below.refl _ _).drew).out (set2_all (blk_in zC.out (Below.refl _ _).drew) _ _).2 (.inr (Nat.le_refl _))).mono (Nat.le_succ_of_le HC72.out.size) (set2_all (blk_in zC.out (Below.refl _ _).drew) _ _).2.size)
        · first | exact Lib.hid (HC79.out.al _) | exact Lib.hid (HC79.out.drew.al _) | exact Lib.hid ((HC79.out.setCell (p := ⟨_, 0, none⟩) (Nat.le_refl _) _).setCell (p := ⟨_, 1, none⟩) (Nat.le_refl _) _) | exact Lib.hid ((HC79.out.drew.setCell (p := ⟨_, 0, none⟩) (Nat.le_refl _) _).setCell (p := ⟨_, 1, none⟩) (Nat.le_refl _) _) | exact Lib.hid ((HC79.out.setCell (p := ⟨_, 0, none⟩) HC70.out.size _).setCell (p := ⟨_, 1, none⟩) HC70.out.size _) | exact Lib.hid ((HC79.out.drew.setCell (p := ⟨_, 0, none⟩) HC70.out.size _).setCell (p := ⟨_, 1, none⟩) HC70.out.size _) | exact Lib.hid ((HC79.out.setCell (p := ⟨_, 0, none⟩) HC72.out.size _).setCell (p := ⟨_, 1, none⟩) HC72.out.size _) | exact Lib.hid ((HC79.out.drew.setCell (p := ⟨_, 0, none⟩) HC72.out.size _).setCell (p := ⟨_, 1, none⟩) HC72.out.size _)
  rename World => w20
  obtain ⟨a_u, b_u, c_u, d_u, bg_u, rfl, rfl, B_u, o_u, hb20⟩ := hcut
  replace hb20 := hb20.out
  have s20 := Lib.hid (show w19.heap.size ≤ w20.heap.size from hb20.size)
  clear c_a0_0 c_a0_1 l_a0
  clear c_a2_0 c_a2_1 l_a2
  clear c_r_0 c_r_1 l_r
  clear c_y0_0 c_y0_1 l_y0
  clear c_y2_0 c_y2_1 l_y2
  clear c_g_0 c_g_1 l_g
  replace B_a0 := Lib.hid (blk_in B_a0.out hb20)
  replace B_a2 := Lib.hid (blk_in B_a2.out hb20)
  replace B_r := Lib.hid (blk_in B_r.out hb20)
  replace B_y0 := Lib.hid (blk_in B_y0.out hb20)
  replace B_y2 := Lib.hid (blk_in B_y2.out hb20)
  replace B_g := Lib.hid (blk_in B_g.out hb20)
  replace o_r := Lib.hid (o_r.out.below hb20)
  replace o_g := Lib.hid (o_g.out.below hb20)
  replace HB := Lib.hid (HB.out.trans (hb20.mono HB.out.size))
  clear hb20
  have tb_u := Lib.hid (lt_of B_u.out)
  obtain ⟨c_a0_0, c_a0_1⟩ := cells2 B_a0.out
  have l_a0 := lt_of B_a0.out
  obtain ⟨c_a2_0, c_a2_1⟩ := cells2 B_a2.out
  have l_a2 := lt_of B_a2.out
  obtain ⟨c_r_0, c_r_1⟩ := cells2 B_r.out
  have l_r := lt_of B_r.out
  obtain ⟨c_y0_0, c_y0_1⟩ := cells2 B_y0.out
  have l_y0 := lt_of B_y0.out
  obtain ⟨c_y2_0, c_y2_1⟩ := cells2 B_y2.out
  have l_y2 := lt_of B_y2.out
  obtain ⟨c_g_0, c_g_1⟩ := cells2 B_g.out
  have l_g := lt_of B_g.out
  obtain ⟨c_u_0, c_u_1⟩ := cells2 B_u.out
  have l_u := lt_of B_u.out
  go_wp2_with fail
  go_at_call 17
  refine (eqNet_ok _ _ (expandNetworkR0 x0 x1 x2) _ o_u.out.v o_r.out.v).mono ?_
  rintro e w21 ⟨rfl, hb21⟩
  have s21 := Lib.hid (show w20.heap.size ≤ w21.heap.size from hb21.size)
  clear c_a0_0 c_a0_1 l_a0
  clear c_a2_0 c_a2_1 l_a2
  clear c_r_0 c_r_1 l_r
  clear c_y0_0 c_y0_1 l_y0
  clear c_y2_0 c_y2_1 l_y2
  clear c_g_0 c_g_1 l_g
  clear c_u_0 c_u_1 l_u
  replace B_a0 := Lib.hid (blk_in B_a0.out hb21)
  replace B_a2 := Lib.hid (blk_in B_a2.out hb21)
  replace B_r := Lib.hid (blk_in B_r.out hb21)
  replace B_y0 := Lib.hid (blk_in B_y0.out hb21)
  replace B_y2 := Lib.hid (blk_in B_y2.out hb21)
  replace B_g := Lib.hid (blk_in B_g.out hb21)
  replace B_u := Lib.hid (blk_in B_u.out hb21)
  replace o_r := Lib.hid (o_r.out.below hb21)
  replace o_g := Lib.hid (o_g.out.below hb21)
  replace o_u := Lib.hid (o_u.out.below hb21)
  replace HB := Lib.hid (HB.out.trans (hb21.mono HB.out.size))
  clear hb21
  obtain ⟨c_a0_0, c_a0_1⟩ := cells2 B_a0.out
  have l_a0 := lt_of B_a0.out
  obtain ⟨c_a2_0, c_a2_1⟩ := cells2 B_a2.out
  have l_a2 := lt_of B_a2.out
  obtain ⟨c_r_0, c_r_1⟩ := cells2 B_r.out
  have l_r := lt_of B_r.out
  obtain ⟨c_y0_0, c_y0_1⟩ := cells2 B_y0.out
  have l_y0 := lt_of B_y0.out
  obtain ⟨c_y2_0, c_y2_1⟩ := cells2 B_y2.out
  have l_y2 := lt_of B_y2.out
  obtain ⟨c_g_0, c_g_1⟩ := cells2 B_g.out
  have l_g := lt_of B_g.out
  obtain ⟨c_u_0, c_u_1⟩ := cells2 B_u.out
  have l_u := lt_of B_u.out
  go_wp2_with fail
  go_at_call 21
  refine (heldNet_r _ (expandNetworkR0 x0 x1 x2) (1) _ o_g.out.v (by omega) (by have := BD.out; have := HS0.out; have := HS2.out; have := stN_le x0; have := stN_le x2; omega)).mono ?_
  rintro e w22 ⟨rfl, hb22⟩
  have s22 := Lib.hid (show w21.heap.size ≤ w22.heap.size from hb22.size)
  clear c_a0_0 c_a0_1 l_a0
  clear c_a2_0 c_a2_1 l_a2
  clear c_r_0 c_r_1 l_r
  clear c_y0_0 c_y0_1 l_y0
  clear c_y2_0 c_y2_1 l_y2
  clear c_g_0 c_g_1 l_g
  clear c_u_0 c_u_1 l_u
  replace B_a0 := Lib.hid (blk_in B_a0.out hb22)
  replace B_a2 := Lib.hid (blk_in B_a2.out hb22)
  replace B_r := Lib.hid (blk_in B_r.out hb22)
  replace B_y0 := Lib.hid (blk_in B_y0.out hb22)
  replace B_y2 := Lib.hid (blk_in B_y2.out hb22)
  replace B_g := Lib.hid (blk_in B_g.out hb22)
  replace B_u := Lib.hid (blk_in B_u.out hb22)
  replace o_r := Lib.hid (o_r.out.below hb22)
  replace o_g := Lib.hid (o_g.out.below hb22)
  replace o_u := Lib.hid (o_u.out.below hb22)
  replace HB := Lib.hid (HB.out.trans (hb22.mono HB.out.size))
  clear hb22
  obtain ⟨c_a0_0, c_a0_1⟩ := cells2 B_a0.out
  have l_a0 := lt_of B_a0.out
  obtain ⟨c_a2_0, c_a2_1⟩ := cells2 B_a2.out
  have l_a2 := lt_of B_a2.out
  obtain ⟨c_r_0, c_r_1⟩ := cells2 B_r.out
  have l_r := lt_of B_r.out
  obtain ⟨c_y0_0, c_y0_1⟩ := cells2 B_y0.out
  have l_y0 := lt_of B_y0.out
  obtain ⟨c_y2_0, c_y2_1⟩ := cells2 B_y2.out
  have l_y2 := lt_of B_y2.out
  obtain ⟨c_g_0, c_g_1⟩ := cells2 B_g.out
  have l_g := lt_of B_g.out
  obtain ⟨c_u_0, c_u_1⟩ := cells2 B_u.out
  have l_u := lt_of B_u.out
  go_wp2_with fail
  go_ret
  exact ⟨rfl, HB.out⟩

end Go.Proofs.Ytkeoefbkeommhaa
