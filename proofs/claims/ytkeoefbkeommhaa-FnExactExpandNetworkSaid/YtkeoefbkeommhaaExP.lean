/-
  ExpandNetwork of the program. No statement of the seat is proved here.
-/
import Derived.Test.YtkeoefbkeommhaaGrX
import Derived.Test.YtkeoefbkeommhaaGwG
namespace Go.Proofs.Ytkeoefbkeommhaa
open Go.RowKit

theorem wf_repG {n m : Net} {k : Nat} (h : templB n (k : Int) m = true) : ∀ l ∈ n.links.map (repL k (grS (baseI n) m) (grT (baseI n) m)), wfL l := by
  obtain ⟨h1, h2, h3, _⟩ := templ_parts h
  have hlen := (okN_len h1).1
  intro a ha
  obtain ⟨l, hl, rfl⟩ := List.mem_map.1 ha
  have q := ok_ends h1 hl
  have beh : ∀ e : End, wfE e → -1 ≤ e.1 → e.1 ≤ 12 → wfE (behE k e) := by
    intro e he a1 a2
    unfold behE
    split
    · unfold wfE wfI at he ⊢; simp only []; omega
    · exact he
  refine ⟨?_, ?_⟩
  · show wfE (repE k (grS (baseI n) m) l.src)
    by_cases hs : l.frm = (k : Int)
    · obtain ⟨o, _, hm, _, ho, hp⟩ := grS_at h hl hs
      rw [repE_at (e := l.src) hs]
      show wfE (grS (baseI n) m l.out)
      rw [ho]
      have r := ok_ends h2 hm
      have r1 := r.1
      unfold Lnk.src wfE wfI at r1
      unfold wfE wfI baseI
      simp only [] at r1 ⊢
      omega
    · rw [repE_not (e := l.src) hs]
      exact beh _ q.1.1 q.1.2.1 q.1.2.2
  · show wfE (repE k (grT (baseI n) m) l.tgt)
    by_cases hs : l.to = (k : Int)
    · obtain ⟨o, _, hm, _, ho, hp⟩ := grT_at h hl hs
      rw [repE_at (e := l.tgt) hs]
      show wfE (grT (baseI n) m l.inn)
      rw [ho]
      have r := ok_ends h2 hm
      have r1 := r.2
      unfold Lnk.tgt wfE wfI at r1
      unfold wfE wfI baseI
      simp only [] at r1 ⊢
      omega
    · rw [repE_not (e := l.tgt) hs]
      exact beh _ q.2.1 q.2.2.1 q.2.2.2
theorem wf_exp {n m : Net} {k : Nat} (h : templB n (k : Int) m = true) : ∀ l ∈ (expN n k m).links, wfL l := by
  obtain ⟨h1, h2, h3, _⟩ := templ_parts h
  have hlen := (okN_len h1).1
  intro l hl
  rcases List.mem_append.1 (show l ∈ _ ++ ptN (baseI n) m from hl) with q | q
  · exact wf_repG h l q
  · exact wf_sh (by unfold baseI; omega) h2 l (List.mem_filter.1 q).1

set_option maxRecDepth 100000 in
set_option maxHeartbeats 16000000 in
theorem iexpnet_any (v : Value) (n : Net) (k : Int) (u : Value) (m : Net) (w : World) (h : NetV w v n) (hwk : (Lit.int .i64 k).wf = true) (h2 : NetV w u m) :
    Calls Try.prog 27 #[v, .int .i64 k, u] w fun e w' => ∃ r, e = .returned (.tuple #[r, .bool (expB n k m)]) ∧ NetR w.heap.size w'.heap.size w' r (expandNetworkR0 n k m) ∧ Below w.heap.size w w' := by
  have CT := Lib.hid (fun (W : World) (hw : Below w.heap.size w W) => itempl_any v n k u m W (h.below hw) hwk (h2.below hw))
  have CP0 := Lib.hid (fun (W : World) (hw : Below w.heap.size w W) (hok : okN m = true) (hf : 0 ≤ baseI n ∧ baseI n ≤ 1000) => ipart_any u m (baseI n) w W h2 hw hok hf)
  have HNV := Lib.hid h
  have HMV := Lib.hid h2
  obtain ⟨pv, lv, rfl, hp, hl⟩ := h
  obtain ⟨qv, mv, rfl, hq, hm2⟩ := h2
  have LP := hp.len
  have HQ := Lib.hid hq
  obtain ⟨la, lcap, rfl⟩ := hl.shape
  obtain ⟨pa, pcap, rfl⟩ := hp.shape
  obtain ⟨ma, mcap, rfl⟩ := hm2.shape
  obtain ⟨qa, qcap, rfl⟩ := hq.shape
  obtain ⟨pm, hpm⟩ : ∃ z, z = n.progs.length := ⟨_, rfl⟩
  obtain ⟨ll, hll⟩ : ∃ z, z = n.links.length := ⟨_, rfl⟩
  obtain ⟨qm, hqm⟩ : ∃ z, z = m.progs.length := ⟨_, rfl⟩
  obtain ⟨ml, hml⟩ : ∃ z, z = m.links.length := ⟨_, rfl⟩
  rw [← hpm, ← hll] at CT HNV ⊢
  rw [← hqm, ← hml] at CT CP0 HMV ⊢
  rw [← hpm] at LP
  rw [← hqm] at HQ
  have NP := Lib.hid hpm
  have NQ := Lib.hid hqm
  clear hp hl hq hm2 hpm hll hqm hml
  obtain ⟨R0, hR0⟩ : ∃ R, R = expandNetworkR0 n k m := ⟨_, rfl⟩
  obtain ⟨R1, hR1⟩ : ∃ R, R = expB n k m := ⟨_, rfl⟩
  rw [← hR0, ← hR1]
  have HR0 := Lib.hid hR0
  have HR1 := Lib.hid hR1
  clear hR0 hR1
  have HB3 := Lib.hid ((((Below.refl w.heap.size w).al (.cells #[.slice pa pm pcap, .slice la ll lcap] 31)).al (.cells #[.slice qa qm qcap, .slice ma ml mcap] 31)).al (.cells #[.slice none 0 0, .slice none 0 0] 31))
  have G3 := Lib.hid (al_keep (o := (.cells #[.slice none 0 0, .slice none 0 0] 31)) (hp21 w (.cells #[.slice pa pm pcap, .slice la ll lcap] 31) (.cells #[.slice qa qm qcap, .slice ma ml mcap] 31)))
  have M3 := Lib.hid (al_keep (o := (.cells #[.slice none 0 0, .slice none 0 0] 31)) (hp2 w (.cells #[.slice pa pm pcap, .slice la ll lcap] 31) (.cells #[.slice qa qm qcap, .slice ma ml mcap] 31)))
  have J3 := Lib.hid (show (((w.alloc (.cells #[.slice pa pm pcap, .slice la ll lcap] 31)).alloc (.cells #[.slice qa qm qcap, .slice ma ml mcap] 31)).alloc (.cells #[.slice none 0 0, .slice none 0 0] 31)).heap[w.heap.size + 1 + 1]? = some (.cells #[.slice none 0 0, .slice none 0 0] 31) from al_at (by simp))
  obtain ⟨k0, k1⟩ := cells2 G3.out
  have gl := lt_of G3.out
  obtain ⟨m0, m1⟩ := cells2 M3.out
  have ml' := lt_of M3.out
  obtain ⟨r0, r1⟩ := cells2 J3.out
  have rl := lt_of J3.out
  have rz0 := fr_of J3.out 0
  have rz1 := fr_of J3.out 1
  cases ht : templB n k m with
  | false =>
    have HF := Lib.hid (HR1.out.trans (expB_no ht))
    have HE := Lib.hid (HR0.out.trans (exp_no (expB_no ht)))
    rw [ht] at CT
    clear ht
    obtain rfl := HE.out
    obtain rfl := HF.out
    go_enter Try.func27, Try.ntmps27
    go_wp2_with (go_at_call 25; (with_reducible refine (CT.out _ HB3.out).mono ?_); rintro e w4 ⟨rfl, hb4⟩; have HB4 := Lib.hid (HB3.out.trans (hb4.mono HB3.out.size)); have G4 := Lib.hid (blk_in G3.out hb4); have M4 := Lib.hid (blk_in M3.out hb4); have J4 := Lib.hid (blk_in J3.out hb4); clear k0 k1 gl m0 m1 ml' r0 r1 rl rz0 rz1; obtain ⟨k0, k1⟩ := cells2 G4.out; have gl := lt_of G4.out; obtain ⟨m0, m1⟩ := cells2 M4.out; have ml' := lt_of M4.out; obtain ⟨r0, r1⟩ := cells2 J4.out; have rl := lt_of J4.out; have rz0 := fr_of J4.out 0; have rz1 := fr_of J4.out 1; clear hb4)
    refine bodyPost_ret (v := .tuple #[.agg #[.slice none 0 0, .slice none 0 0], .bool false]) (by simp [results, Try.results27, go_sem, r0, r1]) rfl ⟨_, rfl, netR_nil _ _ _, ?_⟩
    first | exact HB4.out | exact (HB4.out.setCell (by simp; omega) _).setCell (by simp; omega) _
  | true =>
    rw [ht] at CT
    have hpt := templ_parts ht
    have HOM := Lib.hid hpt.2.1
    have HOK := Lib.hid hpt.1
    have hk := hpt.2.2.1
    obtain ⟨kk, rfl⟩ : ∃ kk : Nat, k = kk := ⟨k.toNat, by omega⟩
    have HT := Lib.hid ht
    have hkm : kk < pm := by have := NP.out; omega
    have hm12 : pm ≤ 12 := by rw [NP.out]; exact (okN_len HOK.out).1
    have hq12 : qm ≤ 12 := by rw [NQ.out]; exact (okN_len HOM.out).1
    have hml30 := (okN_len HOM.out).2.1
    have hll30 := (okN_len HOK.out).2.1
    have hbe : baseI n = (pm : Int) - 1 := by unfold baseI; rw [NP.out]
    have CP := Lib.hid (fun (W : World) (hw : Below w.heap.size w W) (hok : okN m = true) => CP0.out W hw hok (by omega))
    rw [hbe] at CP
    have HBE := Lib.hid hbe
    have hwb : wrap64 ((pm : Int) - 1) = (pm : Int) - 1 := IntWalk.wrap64_in _ (by omega)
    have HB1 := Lib.hid (HR1.out.trans (expB_yes ht))
    clear ht hpt hk CP0 hbe
    rw [Int.toNat_natCast] at HB1
    obtain ⟨j0, hj, hy0, hy1, hy2⟩ := infoL_parts
    obtain ⟨i0, hi, hz0, hz1, hz2⟩ := infoP_parts
    go_enter Try.func27, Try.ntmps27
    go_upto_region 4 with (first | (go_at_call 70; (with_reducible refine (CP.out _ HB4.out HOM.out).mono ?_); rintro e w5 ⟨ra, rb, rc, rfl, hra, hrb, hrc, hb5⟩; have HB5 := Lib.hid (HB4.out.trans (hb5.mono HB4.out.size)); have HRI := Lib.hid hra; have HRO := Lib.hid hrb; have HRN := Lib.hid hrc; obtain ⟨ia, ic, rfl⟩ := hra.shape; obtain ⟨oa, oc, rfl⟩ := hrb.shape; obtain ⟨na, nc, rfl⟩ := hrc.shape; have G5 := Lib.hid (blk_in G4.out hb5); have M5 := Lib.hid (blk_in M4.out hb5); have J5 := Lib.hid (blk_in J4.out hb5); clear k0 k1 gl m0 m1 ml' r0 r1 rl rz0 rz1; obtain ⟨k0, k1⟩ := cells2 G5.out; have gl := lt_of G5.out; obtain ⟨m0, m1⟩ := cells2 M5.out; have ml' := lt_of M5.out; obtain ⟨r0, r1⟩ := cells2 J5.out; have rl := lt_of J5.out; have rz0 := fr_of J5.out 0; have rz1 := fr_of J5.out 1; clear hra hrb hrc hb5) | (go_at_call 25; (with_reducible refine (CT.out _ HB3.out).mono ?_); rintro e w4 ⟨rfl, hb4⟩; have HB4 := Lib.hid (HB3.out.trans (hb4.mono HB3.out.size)); have G4 := Lib.hid (blk_in G3.out hb4); have M4 := Lib.hid (blk_in M3.out hb4); have J4 := Lib.hid (blk_in J3.out hb4); clear k0 k1 gl m0 m1 ml' r0 r1 rl rz0 rz1; obtain ⟨k0, k1⟩ := cells2 G4.out; have gl := lt_of G4.out; obtain ⟨m0, m1⟩ := cells2 M4.out; have ml' := lt_of M4.out; obtain ⟨r0, r1⟩ := cells2 J4.out; have rl := lt_of J4.out; have rz0 := fr_of J4.out 0; have rz1 := fr_of J4.out 1; clear hb4))
    obtain ⟨ci, hci⟩ : ∃ z, z = (ptI ((pm : Int) - 1) m).length := ⟨_, rfl⟩
    obtain ⟨co, hco⟩ : ∃ z, z = (ptO ((pm : Int) - 1) m).length := ⟨_, rfl⟩
    obtain ⟨cn, hcn⟩ : ∃ z, z = (ptN ((pm : Int) - 1) m).length := ⟨_, rfl⟩
    rw [← hci, ← hco, ← hcn]
    rw [← hci] at HRI
    rw [← hco] at HRO
    rw [← hcn] at HRN
    have HCN := Lib.hid hcn
    clear hci hco hcn
    generalize hW : w5.alloc (.cells #[.slice ia ci ic, .slice oa co oc, .slice na cn nc] 89) = w6
    have HC6 := Lib.hid (show Below w5.heap.size w5 w6 by rw [← hW]; exact (Below.refl _ _).al _)
    have T6 := Lib.hid (show w6.heap[w5.heap.size]? = some (.cells #[.slice ia ci ic, .slice oa co oc, .slice na cn nc] 89) by rw [← hW]; exact hp1 _ _)
    clear hW
    obtain ⟨Q, hQ⟩ : ∃ z, z = w5.heap.size := ⟨_, rfl⟩
    rw [← hQ] at T6 ⊢
    clear hQ
    have HB6 := Lib.hid (HB5.out.trans (HC6.out.mono HB5.out.size))
    have G6 := Lib.hid (blk_in G5.out HC6.out)
    have M6 := Lib.hid (blk_in M5.out HC6.out)
    have J6 := Lib.hid (blk_in J5.out HC6.out)
    clear k0 k1 gl m0 m1 ml' r0 r1 rl rz0 rz1
    obtain ⟨k0, k1⟩ := cells2 G6.out
    have gl := lt_of G6.out
    obtain ⟨m0, m1⟩ := cells2 M6.out
    have ml' := lt_of M6.out
    obtain ⟨r0, r1⟩ := cells2 J6.out
    have rl := lt_of J6.out
    have rz0 := fr_of J6.out 0
    have rz1 := fr_of J6.out 1
    obtain ⟨t0, t1, t2⟩ := cells3 T6.out
    have tl := lt_of T6.out
    have SI := Lib.hid (RowL.slL (HRI.out.below HC6.out) HB6.out (fun l hl => wf_sh (by omega) HOM.out l (List.mem_filter.1 hl).1))
    have SO := Lib.hid (RowL.slL (HRO.out.below HC6.out) HB6.out (fun l hl => wf_sh (by omega) HOM.out l (List.mem_filter.1 hl).1))
    have CR := Lib.hid (ireplG_any (.agg #[.slice ia ci ic, .slice oa co oc, .slice na cn nc]) (grS (baseI n) m) (grT (baseI n) m) (.agg #[.slice pa pm pcap, .slice la ll lcap]) n kk w6 (HNV.out.below HB6.out) (ok_small HOK.out) (by rw [← NP.out]; exact hkm) (fun l hl => by have q := ok_ends HOK.out hl; have q1 := q.1.2; have q2 := q.2.2; unfold Lnk.src at q1; unfold Lnk.tgt at q2; simp only [] at q1 q2; omega) (gr_methS _ _ _) (gr_methT _ _ _)
      (fun W l hw hl hs => by
        obtain ⟨o, _, _, hp, ho, _⟩ := grS_at HT.out hl hs
        rw [HBE.out] at hp
        have hlo := (out_link HT.out hl hs).1
        have q := igrS_any ia oa na ci ic co oc cn nc (ptO ((pm : Int) - 1) m) l.out.toNat _ W (SO.out.below hw) hp
        rw [Int.toNat_of_nonneg hlo] at q
        have e : grS (baseI n) m l.out = ((renL (fun x => (pm : Int) - 1 + x) o).frm, (renL (fun x => (pm : Int) - 1 + x) o).out) := by
          unfold grS
          rw [HBE.out, List.getD_eq_getElem?_getD, hp]; rfl
        rw [e]
        exact q)
      (fun W l hw hl hs => by
        obtain ⟨o, _, _, hp, ho, _⟩ := grT_at HT.out hl hs
        rw [HBE.out] at hp
        have hlo := (in_link HT.out hl hs).1
        have q := igrT_any ia oa na ci ic co oc cn nc (ptI ((pm : Int) - 1) m) l.inn.toNat _ W (SI.out.below hw) hp
        rw [Int.toNat_of_nonneg hlo] at q
        have e : grT (baseI n) m l.inn = ((renL (fun x => (pm : Int) - 1 + x) o).to, (renL (fun x => (pm : Int) - 1 + x) o).inn) := by
          unfold grT
          rw [HBE.out, List.getD_eq_getElem?_getD, hp]; rfl
        rw [e]
        exact q))
    rw [exp_keep HT.out] at CR
    go_upto_region 5 with (go_at_call 74; (with_reducible refine (CR.out).mono ?_); rintro e w7 ⟨pv, lv, rfl, hrp, hrl, hb7⟩; have HC7 := Lib.hid hb7; have HRP := Lib.hid hrp; have HRL := Lib.hid hrl; obtain ⟨xa, xc, rfl⟩ := hrp.shape; obtain ⟨ya, yc, rfl⟩ := hrl.shape; clear hrp hrl hb7)
    obtain ⟨mP, hmP⟩ : ∃ z, z = (n.progs.eraseIdx kk).length := ⟨_, rfl⟩
    obtain ⟨lL, hlL⟩ : ∃ z, z = n.links.length := ⟨_, rfl⟩
    have hlM : lL = (n.links.map (repL kk (grS (baseI n) m) (grT (baseI n) m))).length := by rw [List.length_map]; exact hlL
    rw [← hmP, ← hlL]
    rw [← hmP] at HRP
    rw [← hlM] at HRL
    have hmP12 : mP ≤ 12 := by rw [hmP]; have := List.length_eraseIdx_le n.progs kk; have := NP.out; omega
    have hlL30 : lL ≤ 30 := by rw [hlL]; exact hll30
    have HMP := Lib.hid hmP
    have HLL := Lib.hid hlM
    clear hmP hlL hlM
    generalize hW : w7.alloc (.cells #[.slice xa mP xc, .slice ya lL yc] 31) = w8
    have HC8 := Lib.hid (show Below w7.heap.size w7 w8 by rw [← hW]; exact (Below.refl _ _).al _)
    have D8 := Lib.hid (show w8.heap[w7.heap.size]? = some (.cells #[.slice xa mP xc, .slice ya lL yc] 31) by rw [← hW]; exact hp1 _ _)
    clear hW
    obtain ⟨D, hD⟩ : ∃ z, z = w7.heap.size := ⟨_, rfl⟩
    have HDE := Lib.hid hD
    rw [← hD] at D8 ⊢
    clear hD
    have HB7 := Lib.hid (HB6.out.trans (HC7.out.mono HB6.out.size))
    have HC68 := Lib.hid (HC7.out.trans (HC8.out.mono HC7.out.size))
    have M8 := Lib.hid (blk_in M6.out HC68.out)
    have J8 := Lib.hid (blk_in J6.out HC68.out)
    have T8 := Lib.hid (blk_in T6.out HC68.out)
    have hzD : w6.heap.size ≤ D := by rw [HDE.out]; exact HC7.out.size
    have S7 := Lib.hid (HQ.out.below HB6.out)
    obtain ⟨q1, hnq, usq, husq, hslq, hcq, hoq⟩ := S7.out.cellsOf
    obtain ⟨us1, lu1, hrow1, hs1⟩ := HRP.out
    rw [← HMP.out] at hrow1
    have HU1 := Lib.hid (row_below hrow1 HC8.out)
    have HS1 := Lib.hid hs1
    have HLU1 := Lib.hid lu1
    have HNQ := Lib.hid hnq
    have HCQ := Lib.hid (fun ad e j y hy => (HC68.out.cell (World.block_lt_of_cell? w6 _ (hcq ad e j y hy))).trans (hcq ad e j y hy))
    have HLNQ := Lib.hid (show (cellsP m.progs usq).length = qm * 3 by rw [cellsP_len _ _ husq.symm, husq, ← NQ.out])
    have H1Q := Lib.hid (cellsP_one m.progs usq hoq)
    have HSQ := Lib.hid hslq
    have HUQ := Lib.hid husq
    clear q1 hnq husq hslq hcq hoq lu1 hrow1 hs1 k0 k1 gl m0 m1 ml' r0 r1 rl rz0 rz1 t0 t1 t2 tl
    obtain ⟨m0, m1⟩ := cells2 M8.out
    have ml' := lt_of M8.out
    obtain ⟨d0, d1⟩ := cells2 D8.out
    have dl := lt_of D8.out
    go_upto_region 6 with (at_builtin; refine wpList_app_src (ST := 28) (T := 79) (sz := 3) (bytes := 40) (z := .agg #[.int .i64 0, .int .i64 0, .slice none 0 0]) (i0 := i0) Try.underlying28 hi hz0 hz1 hz2 rfl (by decide) rfl (.tmp 28) (.tmp 30) rfl rfl (lo := w6.heap.size) (v := .slice xa mP xc) (n := mP) (m := qm) (cap := qcap) (a := qa) (L := cellsP (n.progs.eraseIdx kk) us1) (M := cellsP m.progs usq) rfl rfl HU1.out HNQ.out HCQ.out HLNQ.out H1Q.out (by unfold maxLen; omega) (by omega) HC68.out.size ?_; intro v9 w9 hown hgrow hat; have HO9 := Lib.hid hown; have HGR9 := Lib.hid hgrow; have D9 := Lib.hid (box_kept D8.out HU1.out (by decide) hgrow); have M9 := Lib.hid (box_kept M8.out HU1.out (by decide) hgrow); have J9 := Lib.hid (box_kept J8.out HU1.out (by decide) hgrow); have T9 := Lib.hid (box_kept T8.out HU1.out (by decide) hgrow); obtain ⟨ga, gc, rfl⟩ := row_shape hown; clear d0 d1 dl; obtain ⟨d0, d1⟩ := cells2 D9.out; have dl := lt_of D9.out; have dz0 := fr_of D9.out 0; clear hown hgrow hat)
    generalize hW : w9.setCell ⟨D, 0, none⟩ (.slice ga (mP + qm) gc) = w10
    have hTD : Typed w9 D 31 := typed_at D9.out
    have D10 := Lib.hid (show w10.heap[D]? = some (.cells #[.slice ga (mP + qm) gc, .slice ya lL yc] 31) by rw [← hW]; exact set2_0 D9.out _)
    have RP10 := Lib.hid (show RowP w6.heap.size w6 w10 (.slice ga (mP + qm) gc) (n.progs.eraseIdx kk ++ m.progs) by
      rw [← hW]
      exact RowP.setT hTD (by decide) (RowP.app HLU1.out HS1.out HUQ.out HSQ.out (by rw [← HMP.out, ← NQ.out]; exact HO9.out)) _)
    have RL10 := Lib.hid (show RowL w6.heap.size w6 w10 (.slice ya lL yc) (n.links.map (repL kk (grS (baseI n) m) (grT (baseI n) m))) by
      rw [← hW]
      exact RowL.setT hTD (by decide) ((HRL.out.below HC8.out).grP HU1.out HGR9.out) _)
    have hC9 : Below w6.heap.size w6 w9 := below_grownHi HC68.out HC68.out.size HGR9.out (fun q e => (HRP.out.lt q e).1)
    have HC10 := Lib.hid (show Below w6.heap.size w6 w10 by rw [← hW]; exact hC9.setCell (p := ⟨D, 0, none⟩) hzD _)
    have HRN10 := Lib.hid (show RowL w4.heap.size w w10 (.slice na cn nc) (ptN ((pm : Int) - 1) m) by
      rw [← hW]
      exact RowL.setT hTD (by decide) (((HRN.out.below HC6.out).below HC68.out).grP HU1.out HGR9.out) _)
    have hDM : w.heap.size + 1 ≠ D := by have := lt_of M6.out; omega
    have hDJ : w.heap.size + 1 + 1 ≠ D := by have := lt_of J6.out; omega
    have hDT : Q ≠ D := by have := lt_of T6.out; omega
    have J10 := Lib.hid (show w10.heap[w.heap.size + 1 + 1]? = some (.cells #[.slice none 0 0, .slice none 0 0] 31) by rw [← hW]; exact setR_blkN J9.out hDJ _)
    have T10 := Lib.hid (show w10.heap[Q]? = some (.cells #[.slice ia ci ic, .slice oa co oc, .slice na cn nc] 89) by rw [← hW]; exact setR_blkN T9.out hDT _)
    clear hW hTD hC9 m0 m1 ml' d0 d1 dl dz0 hDM
    have S6 := Lib.hid (RowL.slL (HRN.out.below HC6.out) HB6.out (fun l hl => wf_sh (by omega) HOM.out l (List.mem_filter.1 hl).1))
    obtain ⟨q1, hnn, usn, husn, hsln, hcn, hon⟩ := S6.out.cellsOf
    obtain ⟨us2, lu2, hrow2, hs2⟩ := RL10.out
    rw [← HLL.out] at hrow2
    have HU2 := Lib.hid hrow2
    have HS2 := Lib.hid hs2
    have HLU2 := Lib.hid lu2
    have HNN := Lib.hid hnn
    have HCNN := Lib.hid (fun ad e j y hy => (HC10.out.cell (World.block_lt_of_cell? w6 _ (hcn ad e j y hy))).trans (hcn ad e j y hy))
    have HLNN := Lib.hid (show (cellsL (ptN ((pm : Int) - 1) m) usn).length = cn * 5 by rw [cellsL_len _ _ husn.symm, husn, ← HCN.out])
    have H1N := Lib.hid (cellsL_one (ptN ((pm : Int) - 1) m) usn hon)
    have HSN := Lib.hid hsln
    have HUN := Lib.hid husn
    have hcn30 : cn ≤ 30 := by rw [HCN.out]; exact Nat.le_trans (List.length_filter_le _ _) (by unfold shL; rw [List.length_map]; exact hml30)
    clear q1 hnn husn hsln hcn hon lu2 hrow2 hs2
    obtain ⟨d0, d1⟩ := cells2 D10.out
    have dl := lt_of D10.out
    obtain ⟨t0, t1, t2⟩ := cells3 T10.out
    have tl := lt_of T10.out
    go_upto_region 7 with (at_builtin; refine wpList_app_src (ST := 29) (T := 68) (sz := 5) (bytes := 56) (z := .agg #[.int .i64 0, .int .i64 0, .int .i64 0, .int .i64 0, .slice none 0 0]) (i0 := j0) Try.underlying29 hj hy0 hy1 hy2 rfl (by decide) rfl (.tmp 34) (.tmp 36) rfl rfl (lo := w6.heap.size) (v := .slice ya lL yc) (n := lL) (m := cn) (cap := nc) (a := na) (L := cellsL (n.links.map (repL kk (grS (baseI n) m) (grT (baseI n) m))) us2) (M := cellsL (ptN ((pm : Int) - 1) m) usn) rfl rfl HU2.out HNN.out HCNN.out HLNN.out H1N.out (by unfold maxLen; omega) (by omega) HC10.out.size ?_; intro v11 w11 hown hgrow hat; have HO11 := Lib.hid hown; have HGR11 := Lib.hid hgrow; have D11 := Lib.hid (box_kept D10.out HU2.out (by decide) hgrow); have J11 := Lib.hid (box_kept J10.out HU2.out (by decide) hgrow); obtain ⟨ha, hc, rfl⟩ := row_shape hown; clear d0 d1 dl; obtain ⟨d0, d1⟩ := cells2 D11.out; have dl := lt_of D11.out; have dz1 := fr_of D11.out 1; clear hown hgrow hat)
    generalize hW : w11.setCell ⟨D, 1, none⟩ (.slice ha (lL + cn) hc) = w12
    have hTD : Typed w11 D 31 := typed_at D11.out
    have D12 := Lib.hid (show w12.heap[D]? = some (.cells #[.slice ga (mP + qm) gc, .slice ha (lL + cn) hc] 31) by rw [← hW]; exact set2_1 D11.out _)
    have RL12 := Lib.hid (show RowL w6.heap.size w6 w12 (.slice ha (lL + cn) hc) (expN n kk m).links by
      rw [← hW]
      refine RowL.setT hTD (by decide) ?_ _
      show RowL w6.heap.size w6 w11 _ (n.links.map (repL kk (grS (baseI n) m) (grT (baseI n) m)) ++ ptN (baseI n) m)
      rw [HBE.out]
      have q := RowL.app HLU2.out HS2.out HUN.out HSN.out (by rw [← HLL.out, ← HCN.out]; exact HO11.out)
      rw [HBE.out] at q
      exact q)
    have RP12 := Lib.hid (show RowP w6.heap.size w6 w12 (.slice ga (mP + qm) gc) (expN n kk m).progs by
      rw [← hW]
      exact RowP.setT hTD (by decide) (RP10.out.grL HU2.out HGR11.out) _)
    have hC11 : Below w6.heap.size w6 w11 := below_grownHi HC10.out HC10.out.size HGR11.out (fun q e => (RL10.out.lt q e).1)
    have HC12 := Lib.hid (show Below w6.heap.size w6 w12 by rw [← hW]; exact hC11.setCell (p := ⟨D, 1, none⟩) hzD _)
    have J12 := Lib.hid (show w12.heap[w.heap.size + 1 + 1]? = some (.cells #[.slice none 0 0, .slice none 0 0] 31) by rw [← hW]; exact setR_blkN J11.out hDJ _)
    clear hW hTD hC11 d0 d1 dl dz1 t0 t1 t2 tl
    have HB12 := Lib.hid (HB6.out.trans (HC12.out.mono HB6.out.size))
    have CV := Lib.hid (ivalid_any (.agg #[.slice ga (mP + qm) gc, .slice ha (lL + cn) hc]) (expN n kk m) w12 ⟨_, _, rfl, RP12.out.slP HC12.out, RL12.out.slL HC12.out (wf_exp HT.out)⟩)
    obtain ⟨M, hM⟩ : ∃ M, M = (if okN (expN n kk m) then expN n kk m else ⟨[], []⟩ : Net) := ⟨_, rfl⟩
    rw [← hM] at CV
    have HM := Lib.hid hM
    clear hM
    obtain ⟨d0, d1⟩ := cells2 D12.out
    have dl := lt_of D12.out
    go_wp2_with (go_at_call 63; (with_reducible refine CV.out.mono ?_); rintro e w13 ⟨r, rfl, hN, hb13⟩; have HB13 := Lib.hid (HB12.out.trans (hb13.mono HB12.out.size)); have J13 := Lib.hid (blk_in J12.out hb13); have HN13 := Lib.hid hN; obtain ⟨ca, cb, cc, cd, rfl⟩ := hN.shape; clear hb13 hN; obtain ⟨r0, r1⟩ := cells2 J13.out; have rl := lt_of J13.out; have rz0 := fr_of J13.out 0; have rz1 := fr_of J13.out 1)
    have hR : R0 = if okN (expN n kk m) then expN n kk m else ⟨[], []⟩ := by rw [HR0.out]; unfold expandNetworkR0; rw [show expB n (kk : Int) m = okN (expN n kk m) from HR1.out.symm.trans HB1.out, Int.toNat_natCast]
    rw [← HM.out] at hR
    have q := set2_all J13.out (.slice ca M.progs.length cb) (.slice cc M.links.length cd)
    refine bodyPost_ret (v := .tuple #[.agg #[.slice ca M.progs.length cb, .slice cc M.links.length cd], .bool (okN (expN n kk m))]) (by simp [results, Try.results27, go_sem, r0, r1]) rfl ⟨_, by rw [HB1.out], ?_, ?_⟩
    · rw [hR]
      exact (HN13.out.out q.2 (.inr (by have := lt_of J12.out; omega))).mono HB12.out.size q.2.size
    · exact q.2.below HB13.out HB13.out.size (by omega)
end Go.Proofs.Ytkeoefbkeommhaa
