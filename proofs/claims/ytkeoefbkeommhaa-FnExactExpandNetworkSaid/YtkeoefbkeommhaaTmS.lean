/-
  l8Outside and IsTemplate of the model. No statement of the seat is proved here.
-/
import Derived.Test.YtkeoefbkeommhaaTmM
namespace Go.Proofs.Ytkeoefbkeommhaa
open Go.RowKit

theorem anyT_stepS {p : Lnk → Bool} {ls : List Lnk} {j : Nat} {l : Lnk} (hx : ls[j]? = some l) (h : (ls.take j).any p = false) (hp : p l = false) : (ls.take (j + 1)).any p = false := by
  have hj := (List.getElem?_eq_some_iff.1 hx).1
  rw [List.take_succ_eq_append_getElem hj, (List.getElem?_eq_some_iff.1 hx).2, List.any_append, h]
  simp [hp]

set_option maxRecDepth 100000 in
set_option maxHeartbeats 16000000 in
theorem soutI_any (v : Value) (m : Net) (w : World) (h : NetV w v m) (hok : okN m = true) :
    Calls Try.prog 68 #[v, .bool true] w fun e w' => ∃ a, e = .returned a ∧ RowL w.heap.size w w' a (m.links.filter isInB) ∧ Below w.heap.size w w' := by
  have HOK := Lib.hid hok
  obtain ⟨pv, lv, rfl, hp, hl⟩ := h
  have LL := hl.len
  have HL := Lib.hid hl
  obtain ⟨la, lcap, rfl⟩ := hl.shape
  obtain ⟨pa, pcap, rfl⟩ := hp.shape
  have hl30 := (okN_len hok).2.1
  obtain ⟨pm, hpm⟩ : ∃ z, z = m.progs.length := ⟨_, rfl⟩
  obtain ⟨ll, hll⟩ : ∃ z, z = m.links.length := ⟨_, rfl⟩
  rw [← hpm, ← hll]
  rw [← hll] at HL LL hl30
  have NL := Lib.hid hll
  clear hp hl hpm hll hok
  obtain ⟨j0, hj, hy0, hy1, hy2⟩ := infoL_parts
  have hb0 := Lib.hid ((Below.refl w.heap.size w).al (.cells #[.slice pa pm pcap, .slice la ll lcap] 31))
  have hH0 := Lib.hid (hp1 w (.cells #[.slice pa pm pcap, .slice la ll lcap] 31))
  go_enter Try.func68, Try.ntmps68
  go_upto_region 2 with fail
  generalize hW : (w.alloc (.cells #[.slice pa pm pcap, .slice la ll lcap] 31)).alloc (.cells #[] 68) = w3
  have HZ := Lib.hid (show w.heap.size + 2 = w3.heap.size by rw [← hW]; simp)
  have N3 := Lib.hid (show w3.heap[w.heap.size]? = some (.cells #[.slice pa pm pcap, .slice la ll lcap] 31) by rw [← hW]; exact al_keep hH0.out)
  have HB3 := Lib.hid (show Below w.heap.size w w3 by rw [← hW]; exact hb0.out.al _)
  have R3 := Lib.hid (show RowL w.heap.size w w3 (.slice (some ⟨w.heap.size + 1, 0, none⟩) 0 0) [] from ⟨[], rfl, by rw [← hW]; exact row_mono (lo := w.heap.size + 1) (by simpa [cellsL] using lit0T 68 5 (w.alloc (.cells #[.slice pa pm pcap, .slice la ll lcap] 31))) (by omega), fun i u p h => by simp at h⟩)
  clear hW
  obtain ⟨k0, k1⟩ := cells2 N3.out
  have gl := lt_of N3.out
  go_wp2_with fail
  clear k0 k1 gl
  go_loopw [5, 12] (fun o i wr => ∃ (j c : Nat) (oa : Option Addr) (oc : Nat), j ≤ ll ∧ o = .slice oa c oc ∧ i = .int .i64 j ∧ c ≤ j ∧ Hid (c = ((m.links.take j).filter isInB).length) ∧ Hid (RowL w.heap.size w wr (.slice oa c oc) ((m.links.take j).filter isInB)) ∧ Hid (Below w.heap.size w wr)) (fun _ i _ => ll - (intOf i).toNat)
  case atStart => exact ⟨0, 0, some ⟨w.heap.size + 1, 0, none⟩, 0, Nat.zero_le _, rfl, rfl, Nat.le_refl _, Lib.hid rfl, R3, HB3⟩
  case round =>
    obtain ⟨j, c, oa, oc, hjl, rfl, rfl, hcj, HCL, HG, HBW⟩ := hrel
    by_cases hlt : j < ll
    case pos =>
      obtain ⟨x, hx⟩ : ∃ x, m.links[j]? = some x := ⟨_, List.getElem?_eq_getElem (by rw [← NL.out]; exact hlt)⟩
      obtain ⟨gb, go, pcv, rfl, hgb0, d0, d1, d2, d3, d4, es⟩ := HL.out.atb hx
      have hxm := List.mem_of_getElem? hx
      have hin := (in_frm HOK.out hxm).1
      have HX := Lib.hid hx
      have ES := Lib.hid es
      have e0 := (HBW.out.cell (p := ⟨gb, go + j * 5, none⟩) hgb0).trans d0
      have e1 := (HBW.out.cell (p := ⟨gb, go + j * 5 + 1, none⟩) hgb0).trans d1
      have e2 := (HBW.out.cell (p := ⟨gb, go + j * 5 + 2, none⟩) hgb0).trans d2
      have e3 := (HBW.out.cell (p := ⟨gb, go + j * 5 + 3, none⟩) hgb0).trans d3
      have e4 := (HBW.out.cell (p := ⟨gb, go + j * 5 + 4, none⟩) hgb0).trans d4
      have hgb1 := Nat.lt_of_lt_of_le hgb0 HBW.out.size
      clear d0 d1 d2 d3 d4 hgb0 hx hxm
      obtain ⟨x0, x1, x2, x3, row⟩ := x
      simp only [] at e0 e1 e2 e3 e4 ES hin
      obtain ⟨ua, uc, rfl⟩ := es.shape
      obtain ⟨ul, hul⟩ : ∃ q, q = row.length := ⟨_, rfl⟩
      rw [← hul] at e4 ES
      clear hul es
      go_upto_region 5 with fail
      generalize hW : wr.alloc (.cells #[.int .i64 x0, .int .i64 x1, .int .i64 x2, .int .i64 x3, .slice ua ul uc] 68) = W1
      have HC1 := Lib.hid (show Below wr.heap.size wr W1 by rw [← hW]; exact (Below.refl _ _).al _)
      have X1 := Lib.hid (show W1.heap[wr.heap.size]? = some (.cells #[.int .i64 x0, .int .i64 x1, .int .i64 x2, .int .i64 x3, .slice ua ul uc] 68) by rw [← hW]; exact hp1 _ _)
      clear hW
      have HB1 := Lib.hid (HBW.out.trans (HC1.out.mono HBW.out.size))
      obtain ⟨p0, p1, p2, p3, p4⟩ := cells5 X1.out
      have pl := lt_of X1.out
      cases hi : isInB ⟨x0, x1, x2, x3, row⟩ with
      | false =>
        rw [hi] at hin
        have FI := Lib.hid (filter_no HX.out hi)
        clear hi
        go_wp2_with fail
        go_roundw
        case rel => exact ⟨j + 1, c, oa, oc, by omega, rfl, by go_num, by omega, by rw [FI.out]; exact HCL, by rw [FI.out]; exact Lib.hid (HG.out.below HC1.out), HB1⟩
        case measure => simp [intOf]; omega
      | true =>
        rw [hi] at hin
        have FI := Lib.hid (filter_yes HX.out hi)
        clear hi
        obtain ⟨us, lus, hU1, hU2⟩ := HG.out
        have HLU := Lib.hid lus
        have HU2 := Lib.hid hU2
        rw [← HCL.out] at hU1
        have HU0 := Lib.hid hU1
        clear hU1 hU2 lus
        go_wp2_with (at_builtin; refine Go.wpList_append_lies _ rfl _ _ 29 rfl w.heap.size 68 j0 (.agg #[.int .i64 0, .int .i64 0, .int .i64 0, .int .i64 0, .slice none 0 0]) 5 56 Try.underlying29 hj hy0 hy1 hy2 rfl (by decide) (.slice oa c oc) c (cellsL ((m.links.take j).filter isInB) us) rfl (World.ownsRow.alloc (row_below HU0.out HC1.out) _) ⟨W1.heap.size, 0, none⟩ 1 1 [.int .i64 x0, .int .i64 x1, .int .i64 x2, .int .i64 x3, .slice ua ul uc] rfl rfl (lit_cells W1 #[.int .i64 x0, .int .i64 x1, .int .i64 x2, .int .i64 x3, .slice ua ul uc] 68) (by intro u hu; simp at hu; rcases hu with rfl | rfl | rfl | rfl | rfl <;> rfl) (by omega) (by unfold maxLen; omega) (by omega) (by have := HC1.out.size; have := HBW.out.size; simp; omega) (W1.heap.size + 1) (by simp) ?_; intro g9 gc w6 hown hgrow hor hglt; have HOW := Lib.hid hown; have HGR := Lib.hid hgrow; clear hown hgrow hor hglt)
        go_roundw
        case rel =>
          refine ⟨j + 1, c + 1, some ⟨g9, 0, none⟩, gc, by omega, rfl, by go_num, by omega, by rw [FI.out, List.length_append, ← HCL.out]; exact Lib.hid rfl, ?_, ?_⟩
          · rw [FI.out]; exact Lib.hid (RowL.snoc (a := ⟨x0, x1, x2, x3, row⟩) HLU.out HU2.out ES.out (by rw [← HCL.out]; exact HOW.out))
          · exact Lib.hid (below_grownHi (HB1.out.al _) (by have := HB1.out.size; simp; omega) HGR.out (fun q e => (World.ownsRow.lt HU0.out q e).1))
        case measure => simp [intOf]; omega
    obtain rfl : ll = j := by omega
    have htk : m.links.take ll = m.links := List.take_of_length_le (by rw [← NL.out]; omega)
    rw [htk] at HG
    clear htk
    go_wp2_with fail
    go_ret
    exact ⟨_, rfl, HG.out, HBW.out⟩

set_option maxRecDepth 100000 in
set_option maxHeartbeats 16000000 in
theorem soutO_any (v : Value) (m : Net) (w : World) (h : NetV w v m) (hok : okN m = true) :
    Calls Try.prog 68 #[v, .bool false] w fun e w' => ∃ a, e = .returned a ∧ RowL w.heap.size w w' a (m.links.filter isOutB) ∧ Below w.heap.size w w' := by
  have HOK := Lib.hid hok
  obtain ⟨pv, lv, rfl, hp, hl⟩ := h
  have LL := hl.len
  have HL := Lib.hid hl
  obtain ⟨la, lcap, rfl⟩ := hl.shape
  obtain ⟨pa, pcap, rfl⟩ := hp.shape
  have hl30 := (okN_len hok).2.1
  obtain ⟨pm, hpm⟩ : ∃ z, z = m.progs.length := ⟨_, rfl⟩
  obtain ⟨ll, hll⟩ : ∃ z, z = m.links.length := ⟨_, rfl⟩
  rw [← hpm, ← hll]
  rw [← hll] at HL LL hl30
  have NL := Lib.hid hll
  clear hp hl hpm hll hok
  obtain ⟨j0, hj, hy0, hy1, hy2⟩ := infoL_parts
  have hb0 := Lib.hid ((Below.refl w.heap.size w).al (.cells #[.slice pa pm pcap, .slice la ll lcap] 31))
  have hH0 := Lib.hid (hp1 w (.cells #[.slice pa pm pcap, .slice la ll lcap] 31))
  go_enter Try.func68, Try.ntmps68
  go_upto_region 2 with fail
  generalize hW : (w.alloc (.cells #[.slice pa pm pcap, .slice la ll lcap] 31)).alloc (.cells #[] 68) = w3
  have HZ := Lib.hid (show w.heap.size + 2 = w3.heap.size by rw [← hW]; simp)
  have N3 := Lib.hid (show w3.heap[w.heap.size]? = some (.cells #[.slice pa pm pcap, .slice la ll lcap] 31) by rw [← hW]; exact al_keep hH0.out)
  have HB3 := Lib.hid (show Below w.heap.size w w3 by rw [← hW]; exact hb0.out.al _)
  have R3 := Lib.hid (show RowL w.heap.size w w3 (.slice (some ⟨w.heap.size + 1, 0, none⟩) 0 0) [] from ⟨[], rfl, by rw [← hW]; exact row_mono (lo := w.heap.size + 1) (by simpa [cellsL] using lit0T 68 5 (w.alloc (.cells #[.slice pa pm pcap, .slice la ll lcap] 31))) (by omega), fun i u p h => by simp at h⟩)
  clear hW
  obtain ⟨k0, k1⟩ := cells2 N3.out
  have gl := lt_of N3.out
  go_wp2_with fail
  clear k0 k1 gl
  go_loopw [5, 12] (fun o i wr => ∃ (j c : Nat) (oa : Option Addr) (oc : Nat), j ≤ ll ∧ o = .slice oa c oc ∧ i = .int .i64 j ∧ c ≤ j ∧ Hid (c = ((m.links.take j).filter isOutB).length) ∧ Hid (RowL w.heap.size w wr (.slice oa c oc) ((m.links.take j).filter isOutB)) ∧ Hid (Below w.heap.size w wr)) (fun _ i _ => ll - (intOf i).toNat)
  case atStart => exact ⟨0, 0, some ⟨w.heap.size + 1, 0, none⟩, 0, Nat.zero_le _, rfl, rfl, Nat.le_refl _, Lib.hid rfl, R3, HB3⟩
  case round =>
    obtain ⟨j, c, oa, oc, hjl, rfl, rfl, hcj, HCL, HG, HBW⟩ := hrel
    by_cases hlt : j < ll
    case pos =>
      obtain ⟨x, hx⟩ : ∃ x, m.links[j]? = some x := ⟨_, List.getElem?_eq_getElem (by rw [← NL.out]; exact hlt)⟩
      obtain ⟨gb, go, pcv, rfl, hgb0, d0, d1, d2, d3, d4, es⟩ := HL.out.atb hx
      have hxm := List.mem_of_getElem? hx
      have hin := (in_frm HOK.out hxm).2
      have HX := Lib.hid hx
      have ES := Lib.hid es
      have e0 := (HBW.out.cell (p := ⟨gb, go + j * 5, none⟩) hgb0).trans d0
      have e1 := (HBW.out.cell (p := ⟨gb, go + j * 5 + 1, none⟩) hgb0).trans d1
      have e2 := (HBW.out.cell (p := ⟨gb, go + j * 5 + 2, none⟩) hgb0).trans d2
      have e3 := (HBW.out.cell (p := ⟨gb, go + j * 5 + 3, none⟩) hgb0).trans d3
      have e4 := (HBW.out.cell (p := ⟨gb, go + j * 5 + 4, none⟩) hgb0).trans d4
      have hgb1 := Nat.lt_of_lt_of_le hgb0 HBW.out.size
      clear d0 d1 d2 d3 d4 hgb0 hx hxm
      obtain ⟨x0, x1, x2, x3, row⟩ := x
      simp only [] at e0 e1 e2 e3 e4 ES hin
      obtain ⟨ua, uc, rfl⟩ := es.shape
      obtain ⟨ul, hul⟩ : ∃ q, q = row.length := ⟨_, rfl⟩
      rw [← hul] at e4 ES
      clear hul es
      go_upto_region 5 with fail
      generalize hW : wr.alloc (.cells #[.int .i64 x0, .int .i64 x1, .int .i64 x2, .int .i64 x3, .slice ua ul uc] 68) = W1
      have HC1 := Lib.hid (show Below wr.heap.size wr W1 by rw [← hW]; exact (Below.refl _ _).al _)
      have X1 := Lib.hid (show W1.heap[wr.heap.size]? = some (.cells #[.int .i64 x0, .int .i64 x1, .int .i64 x2, .int .i64 x3, .slice ua ul uc] 68) by rw [← hW]; exact hp1 _ _)
      clear hW
      have HB1 := Lib.hid (HBW.out.trans (HC1.out.mono HBW.out.size))
      obtain ⟨p0, p1, p2, p3, p4⟩ := cells5 X1.out
      have pl := lt_of X1.out
      cases hi : isOutB ⟨x0, x1, x2, x3, row⟩ with
      | false =>
        rw [hi] at hin
        have FI := Lib.hid (filter_no HX.out hi)
        clear hi
        go_wp2_with fail
        go_roundw
        case rel => exact ⟨j + 1, c, oa, oc, by omega, rfl, by go_num, by omega, by rw [FI.out]; exact HCL, by rw [FI.out]; exact Lib.hid (HG.out.below HC1.out), HB1⟩
        case measure => simp [intOf]; omega
      | true =>
        rw [hi] at hin
        have FI := Lib.hid (filter_yes HX.out hi)
        clear hi
        obtain ⟨us, lus, hU1, hU2⟩ := HG.out
        have HLU := Lib.hid lus
        have HU2 := Lib.hid hU2
        rw [← HCL.out] at hU1
        have HU0 := Lib.hid hU1
        clear hU1 hU2 lus
        go_wp2_with (at_builtin; refine Go.wpList_append_lies _ rfl _ _ 29 rfl w.heap.size 68 j0 (.agg #[.int .i64 0, .int .i64 0, .int .i64 0, .int .i64 0, .slice none 0 0]) 5 56 Try.underlying29 hj hy0 hy1 hy2 rfl (by decide) (.slice oa c oc) c (cellsL ((m.links.take j).filter isOutB) us) rfl (World.ownsRow.alloc (row_below HU0.out HC1.out) _) ⟨W1.heap.size, 0, none⟩ 1 1 [.int .i64 x0, .int .i64 x1, .int .i64 x2, .int .i64 x3, .slice ua ul uc] rfl rfl (lit_cells W1 #[.int .i64 x0, .int .i64 x1, .int .i64 x2, .int .i64 x3, .slice ua ul uc] 68) (by intro u hu; simp at hu; rcases hu with rfl | rfl | rfl | rfl | rfl <;> rfl) (by omega) (by unfold maxLen; omega) (by omega) (by have := HC1.out.size; have := HBW.out.size; simp; omega) (W1.heap.size + 1) (by simp) ?_; intro g9 gc w6 hown hgrow hor hglt; have HOW := Lib.hid hown; have HGR := Lib.hid hgrow; clear hown hgrow hor hglt)
        go_roundw
        case rel =>
          refine ⟨j + 1, c + 1, some ⟨g9, 0, none⟩, gc, by omega, rfl, by go_num, by omega, by rw [FI.out, List.length_append, ← HCL.out]; exact Lib.hid rfl, ?_, ?_⟩
          · rw [FI.out]; exact Lib.hid (RowL.snoc (a := ⟨x0, x1, x2, x3, row⟩) HLU.out HU2.out ES.out (by rw [← HCL.out]; exact HOW.out))
          · exact Lib.hid (below_grownHi (HB1.out.al _) (by have := HB1.out.size; simp; omega) HGR.out (fun q e => (World.ownsRow.lt HU0.out q e).1))
        case measure => simp [intOf]; omega
    obtain rfl : ll = j := by omega
    have htk : m.links.take ll = m.links := List.take_of_length_le (by rw [← NL.out]; omega)
    rw [htk] at HG
    clear htk
    go_wp2_with fail
    go_ret
    exact ⟨_, rfl, HG.out, HBW.out⟩

set_option maxRecDepth 100000 in
set_option maxHeartbeats 16000000 in
theorem stempl_any (v : Value) (n : Net) (k : Int) (u : Value) (m : Net) (w : World) (h : NetV w v n) (hwk : (Lit.int .i64 k).wf = true) (h2 : NetV w u m) :
    Calls Try.prog 24 #[v, .int .i64 k, u] w fun e w' => e = .returned (.bool (templB n k m)) ∧ Below w.heap.size w w' := by
  have CN := Lib.hid (fun (W : World) (hw : Below w.heap.size w W) => sisnet_any v n W (h.below hw))
  have CM := Lib.hid (fun (W : World) (hw : Below w.heap.size w W) => sisnet_any u m W (h2.below hw))
  have CH0 := Lib.hid (fun (W : World) (hw : Below w.heap.size w W) => shas_any v n k W (h.below hw))
  have CI := Lib.hid (fun (W : World) (hw : Below w.heap.size w W) (hok : okN m = true) => soutI_any u m W (h2.below hw) hok)
  have CO := Lib.hid (fun (W : World) (hw : Below w.heap.size w W) (hok : okN m = true) => soutO_any u m W (h2.below hw) hok)
  obtain ⟨pv, lv, rfl, hp, hl⟩ := h
  obtain ⟨qv, mv, rfl, hq, hm2⟩ := h2
  have LP := hp.len
  have HP := Lib.hid hp
  obtain ⟨la, lcap, rfl⟩ := hl.shape
  obtain ⟨pa, pcap, rfl⟩ := hp.shape
  obtain ⟨ma, mcap, rfl⟩ := hm2.shape
  obtain ⟨qa, qcap, rfl⟩ := hq.shape
  obtain ⟨pm, hpm⟩ : ∃ z, z = n.progs.length := ⟨_, rfl⟩
  obtain ⟨ll, hll⟩ : ∃ z, z = n.links.length := ⟨_, rfl⟩
  obtain ⟨qm, hqm⟩ : ∃ z, z = m.progs.length := ⟨_, rfl⟩
  obtain ⟨ml, hml⟩ : ∃ z, z = m.links.length := ⟨_, rfl⟩
  rw [← hpm, ← hll] at CN CH0 ⊢
  rw [← hqm, ← hml] at CM CI CO ⊢
  rw [← hpm] at HP LP
  have NP := Lib.hid hpm
  clear hp hl hq hm2 hpm hll hqm hml
  obtain ⟨R, hR⟩ : ∃ R, R = templB n k m := ⟨_, rfl⟩
  rw [← hR]
  have HRR := Lib.hid hR
  clear hR
  have HB2 := Lib.hid (((Below.refl w.heap.size w).al (.cells #[.slice pa pm pcap, .slice la ll lcap] 31)).al (.cells #[.slice qa qm qcap, .slice ma ml mcap] 31))
  have G2 := Lib.hid (hp21 w (.cells #[.slice pa pm pcap, .slice la ll lcap] 31) (.cells #[.slice qa qm qcap, .slice ma ml mcap] 31))
  have M2 := Lib.hid (hp2 w (.cells #[.slice pa pm pcap, .slice la ll lcap] 31) (.cells #[.slice qa qm qcap, .slice ma ml mcap] 31))
  have k0 : ((w.alloc (.cells #[.slice pa pm pcap, .slice la ll lcap] 31)).alloc (.cells #[.slice qa qm qcap, .slice ma ml mcap] 31)).cell? ⟨w.heap.size, 0, none⟩ = some (.slice pa pm pcap) := (cells2 G2.out).1
  have k1 := (cells2 G2.out).2
  have gl := lt_of G2.out
  have m0 := (cells2 M2.out).1
  have m1 := (cells2 M2.out).2
  have ml' := lt_of M2.out
  cases ho : okN n with
  | false =>
    have HE := Lib.hid (HRR.out.trans (templ_no1 ho))
    rw [ho] at CN
    clear ho HRR
    obtain rfl := HE.out
    go_enter Try.func24, Try.ntmps24
    go_wp2_with (go_at_call 45; (with_reducible refine (CN.out _ HB2.out).mono ?_); rintro e w3 ⟨rfl, hb3⟩; have HB3 := Lib.hid (HB2.out.trans (hb3.mono HB2.out.size)); have G3 := Lib.hid (blk_in G2.out hb3); have M3 := Lib.hid (blk_in M2.out hb3); clear k0 k1 gl m0 m1 ml'; obtain ⟨k0, k1⟩ := cells2 G3.out; have gl := lt_of G3.out; obtain ⟨m0, m1⟩ := cells2 M3.out; have ml' := lt_of M3.out; clear hb3)
    go_ret
    exact ⟨rfl, HB3.out⟩
  | true =>
    rw [ho] at CN
    cases ho2 : okN m with
    | false =>
      have HE := Lib.hid (HRR.out.trans (templ_no2 ho2))
      rw [ho2] at CM
      clear ho ho2 HRR
      obtain rfl := HE.out
      go_enter Try.func24, Try.ntmps24
      go_wp2_with (first | (go_at_call 45; (with_reducible refine (CM.out _ HB3.out).mono ?_); rintro e w4 ⟨rfl, hb4⟩; have HB4 := Lib.hid (HB3.out.trans (hb4.mono HB3.out.size)); have G4 := Lib.hid (blk_in G3.out hb4); have M4 := Lib.hid (blk_in M3.out hb4); clear k0 k1 gl m0 m1 ml'; obtain ⟨k0, k1⟩ := cells2 G4.out; have gl := lt_of G4.out; obtain ⟨m0, m1⟩ := cells2 M4.out; have ml' := lt_of M4.out; clear hb4) | (go_at_call 45; (with_reducible refine (CN.out _ HB2.out).mono ?_); rintro e w3 ⟨rfl, hb3⟩; have HB3 := Lib.hid (HB2.out.trans (hb3.mono HB2.out.size)); have G3 := Lib.hid (blk_in G2.out hb3); have M3 := Lib.hid (blk_in M2.out hb3); clear k0 k1 gl m0 m1 ml'; obtain ⟨k0, k1⟩ := cells2 G3.out; have gl := lt_of G3.out; obtain ⟨m0, m1⟩ := cells2 M3.out; have ml' := lt_of M3.out; clear hb3))
      go_ret
      exact ⟨rfl, HB4.out⟩
    | true =>
      rw [ho2] at CM
      have HOK := Lib.hid ho
      have HOM := Lib.hid ho2
      have hm12 : pm ≤ 12 := by rw [NP.out]; exact (okN_len ho).1
      have hml30 := (okN_len ho2).2.1
      clear ho ho2
      by_cases hk : 0 ≤ k ∧ k < (pm : Int)
      case neg =>
        have HE := Lib.hid (HRR.out.trans (templ_no3 (by rw [← NP.out]; exact hk)))
        have CH := Lib.hid (fun (W : World) (hw : Below w.heap.size w W) => (show Calls Try.prog 67 #[.agg #[.slice pa pm pcap, .slice la ll lcap], .int .i64 k] W fun e w' => e = .returned (.bool false) ∧ Below W.heap.size W w' by have q := CH0.out W hw; unfold hasP at q; rw [← NP.out, decide_eq_false hk] at q; exact q))
        clear hk CH0 HRR
        obtain rfl := HE.out
        go_enter Try.func24, Try.ntmps24
        go_wp2_with (first | (go_at_call 67; (with_reducible refine (CH.out _ HB4.out).mono ?_); rintro e w5 ⟨rfl, hb5⟩; have HB5 := Lib.hid (HB4.out.trans (hb5.mono HB4.out.size)); have G5 := Lib.hid (blk_in G4.out hb5); have M5 := Lib.hid (blk_in M4.out hb5); clear k0 k1 gl m0 m1 ml'; obtain ⟨k0, k1⟩ := cells2 G5.out; have gl := lt_of G5.out; obtain ⟨m0, m1⟩ := cells2 M5.out; have ml' := lt_of M5.out; clear hb5) | (go_at_call 45; (with_reducible refine (CM.out _ HB3.out).mono ?_); rintro e w4 ⟨rfl, hb4⟩; have HB4 := Lib.hid (HB3.out.trans (hb4.mono HB3.out.size)); have G4 := Lib.hid (blk_in G3.out hb4); have M4 := Lib.hid (blk_in M3.out hb4); clear k0 k1 gl m0 m1 ml'; obtain ⟨k0, k1⟩ := cells2 G4.out; have gl := lt_of G4.out; obtain ⟨m0, m1⟩ := cells2 M4.out; have ml' := lt_of M4.out; clear hb4) | (go_at_call 45; (with_reducible refine (CN.out _ HB2.out).mono ?_); rintro e w3 ⟨rfl, hb3⟩; have HB3 := Lib.hid (HB2.out.trans (hb3.mono HB2.out.size)); have G3 := Lib.hid (blk_in G2.out hb3); have M3 := Lib.hid (blk_in M2.out hb3); clear k0 k1 gl m0 m1 ml'; obtain ⟨k0, k1⟩ := cells2 G3.out; have gl := lt_of G3.out; obtain ⟨m0, m1⟩ := cells2 M3.out; have ml' := lt_of M3.out; clear hb3))
        go_ret
        exact ⟨rfl, HB5.out⟩
      have CH := Lib.hid (fun (W : World) (hw : Below w.heap.size w W) => (show Calls Try.prog 67 #[.agg #[.slice pa pm pcap, .slice la ll lcap], .int .i64 k] W fun e w' => e = .returned (.bool true) ∧ Below W.heap.size W w' by have q := CH0.out W hw; unfold hasP at q; rw [← NP.out, decide_eq_true hk] at q; exact q))
      obtain ⟨kk, rfl⟩ : ∃ kk : Nat, k = kk := ⟨k.toNat, by omega⟩
      have hkm : kk < pm := by omega
      obtain ⟨x, hx⟩ : ∃ x, n.progs[kk]? = some x := ⟨_, List.getElem?_eq_getElem (by rw [← NP.out]; exact hkm)⟩
      have HE := Lib.hid (HRR.out.trans (templ_at HOK.out HOM.out hx))
      obtain ⟨gb, go, pcv, rfl, hgb, d0, d1, _, _⟩ := HP.out.atb hx
      have HD := Lib.hid (fun (W : World) (hw : Below w.heap.size w W) => (show W.cell? ⟨gb, go + kk * 3, none⟩ = some (.int .i64 x.ins) ∧ W.cell? ⟨gb, go + kk * 3 + 1, none⟩ = some (.int .i64 x.outs) ∧ gb < W.heap.size from ⟨(hw.cell (p := ⟨gb, go + kk * 3, none⟩) hgb).trans d0, (hw.cell (p := ⟨gb, go + kk * 3 + 1, none⟩) hgb).trans d1, Nat.lt_of_lt_of_le hgb hw.size⟩))
      clear hk CH0 HRR hx d0 d1 hgb
      go_enter Try.func24, Try.ntmps24
      obtain ⟨j0, hj, hy0, hy1, hy2⟩ := infoL_parts
      go_upto_region 5 with (first | (go_at_call 68; (with_reducible refine (CO.out _ HB6.out HOM.out).mono ?_); rintro e w7 ⟨ro, rfl, hro, hb7⟩; have HB7 := Lib.hid (HB6.out.trans (hb7.mono HB6.out.size)); have HC7 := Lib.hid hb7; have HRO := Lib.hid hro; obtain ⟨oa, oc, rfl⟩ := hro.shape; have G7 := Lib.hid (blk_in G6.out hb7); have M7 := Lib.hid (blk_in M6.out hb7); clear k0 k1 gl m0 m1 ml' hro; obtain ⟨k0, k1⟩ := cells2 G7.out; have gl := lt_of G7.out; obtain ⟨m0, m1⟩ := cells2 M7.out; have ml' := lt_of M7.out; clear hb7) | (go_at_call 68; (with_reducible refine (CI.out _ HB5.out HOM.out).mono ?_); rintro e w6 ⟨ri, rfl, hri, hb6⟩; have HB6 := Lib.hid (HB5.out.trans (hb6.mono HB5.out.size)); have HC6 := Lib.hid hb6; have HRI := Lib.hid hri; obtain ⟨ia, ic, rfl⟩ := hri.shape; have G6 := Lib.hid (blk_in G5.out hb6); have M6 := Lib.hid (blk_in M5.out hb6); clear k0 k1 gl m0 m1 ml' hri; obtain ⟨k0, k1⟩ := cells2 G6.out; have gl := lt_of G6.out; obtain ⟨m0, m1⟩ := cells2 M6.out; have ml' := lt_of M6.out; clear hb6) | (go_at_call 67; (with_reducible refine (CH.out _ HB4.out).mono ?_); rintro e w5 ⟨rfl, hb5⟩; have HB5 := Lib.hid (HB4.out.trans (hb5.mono HB4.out.size)); have G5 := Lib.hid (blk_in G4.out hb5); have M5 := Lib.hid (blk_in M4.out hb5); clear k0 k1 gl m0 m1 ml'; obtain ⟨k0, k1⟩ := cells2 G5.out; have gl := lt_of G5.out; obtain ⟨m0, m1⟩ := cells2 M5.out; have ml' := lt_of M5.out; clear hb5) | (go_at_call 45; (with_reducible refine (CM.out _ HB3.out).mono ?_); rintro e w4 ⟨rfl, hb4⟩; have HB4 := Lib.hid (HB3.out.trans (hb4.mono HB3.out.size)); have G4 := Lib.hid (blk_in G3.out hb4); have M4 := Lib.hid (blk_in M3.out hb4); clear k0 k1 gl m0 m1 ml'; obtain ⟨k0, k1⟩ := cells2 G4.out; have gl := lt_of G4.out; obtain ⟨m0, m1⟩ := cells2 M4.out; have ml' := lt_of M4.out; clear hb4) | (go_at_call 45; (with_reducible refine (CN.out _ HB2.out).mono ?_); rintro e w3 ⟨rfl, hb3⟩; have HB3 := Lib.hid (HB2.out.trans (hb3.mono HB2.out.size)); have G3 := Lib.hid (blk_in G2.out hb3); have M3 := Lib.hid (blk_in M2.out hb3); clear k0 k1 gl m0 m1 ml'; obtain ⟨k0, k1⟩ := cells2 G3.out; have gl := lt_of G3.out; obtain ⟨m0, m1⟩ := cells2 M3.out; have ml' := lt_of M3.out; clear hb3))
      obtain ⟨ci, hci⟩ : ∃ z, z = (insL m).length := ⟨_, rfl⟩
      obtain ⟨co, hco⟩ : ∃ z, z = (outsL m).length := ⟨_, rfl⟩
      have S1 := Lib.hid (show SlL w7 (.slice ia ci ic) (insL m) by rw [hci]; exact RowL.slL (HRI.out.below HC7.out) (HC6.out.trans (HC7.out.mono HC6.out.size)) (fun l hl => wf_okN HOM.out l (List.mem_filter.1 hl).1))
      have S2 := Lib.hid (show SlL w7 (.slice oa co oc) (outsL m) by rw [hco]; exact RowL.slL HRO.out HC7.out (fun l hl => wf_okN HOM.out l (List.mem_filter.1 hl).1))
      rw [show (m.links.filter isInB).length = ci from hci.symm, show (m.links.filter isOutB).length = co from hco.symm]
      obtain ⟨q1, hn1, us1, hus1, hsl1, hc1, ho1⟩ := S1.out.cellsOf
      obtain ⟨q2, hn2, us2, hus2, hsl2, hc2, ho2⟩ := S2.out.cellsOf
      have HN1 := Lib.hid hn1
      have HN2 := Lib.hid hn2
      have HC1 := Lib.hid hc1
      have HC2 := Lib.hid hc2
      have HSL1 := Lib.hid hsl1
      have HSL2 := Lib.hid hsl2
      have HUS1 := Lib.hid hus1
      have HUS2 := Lib.hid hus2
      have H1 := Lib.hid (cellsL_one (insL m) us1 ho1)
      have H2 := Lib.hid (cellsL_one (outsL m) us2 ho2)
      have HLN1 := Lib.hid (show (cellsL (insL m) us1).length = ci * 5 by rw [cellsL_len _ _ hus1.symm, hus1, hci])
      have HLN2 := Lib.hid (show (cellsL (outsL m) us2).length = co * 5 by rw [cellsL_len _ _ hus2.symm, hus2, hco])
      have hci30 : ci ≤ 30 := by rw [hci]; exact Nat.le_trans (List.length_filter_le _ _) hml30
      have hco30 : co ≤ 30 := by rw [hco]; exact Nat.le_trans (List.length_filter_le _ _) hml30
      have HCI := Lib.hid hci
      have HCO := Lib.hid hco
      clear q1 q2 hn1 hn2 hc1 hc2 hsl1 hsl2 hus1 hus2 ho1 ho2 hci hco
      go_wp2_with (first | (at_builtin; refine wpList_app_src (ST := 29) (T := 68) (sz := 5) (bytes := 56) (z := .agg #[.int .i64 0, .int .i64 0, .int .i64 0, .int .i64 0, .slice none 0 0]) (i0 := j0) Try.underlying29 hj hy0 hy1 hy2 rfl (by decide) rfl (.tmp 31) (.tmp 32) rfl rfl (lo := w7.heap.size) (v := .slice ga ci gc) (n := ci) (m := co) (cap := oc) (a := oa) (L := cellsL (insL m) us1) (M := cellsL (outsL m) us2) rfl rfl HO8.out HN2.out (fun ad e j y hy => (HB8.out.cell (World.block_lt_of_cell? w7 _ (HC2.out ad e j y hy))).trans (HC2.out ad e j y hy)) HLN2.out H2.out (by unfold maxLen; omega) (by omega) HB8.out.size ?_; intro v9 w9 hown hgrow hat; have HO9 := Lib.hid hown; have HB9 := Lib.hid (below_grownHi HB8.out HB8.out.size hgrow (fun q e => (World.ownsRow.lt HO8.out q e).1)); obtain ⟨fa, fc, rfl⟩ := row_shape hown; clear hown hgrow hat) | (at_builtin; refine wpList_app_src (ST := 29) (T := 68) (sz := 5) (bytes := 56) (z := .agg #[.int .i64 0, .int .i64 0, .int .i64 0, .int .i64 0, .slice none 0 0]) (i0 := j0) Try.underlying29 hj hy0 hy1 hy2 rfl (by decide) rfl (.tmp 29) (.tmp 30) rfl rfl (lo := w7.heap.size) (v := .slice (some ⟨w7.heap.size, 0, none⟩) 0 0) (n := 0) (m := ci) (cap := ic) (a := ia) (L := []) (M := cellsL (insL m) us1) rfl rfl (lit0T _ _ _) HN1.out (fun ad e j y hy => World.cell_al _ (HC1.out ad e j y hy)) HLN1.out H1.out (by unfold maxLen; omega) (by omega) (by simp) ?_; intro v8 w8 hown hgrow hat; rw [Nat.zero_add, List.nil_append] at hown; have HO8 := Lib.hid hown; have HB8 := Lib.hid (below_grownHi ((Below.refl w7.heap.size w7).al (.cells #[] 68)) (by simp) hgrow (fun q e => by simp [Value.ownBlock] at e; omega)); obtain ⟨ga, gc, rfl⟩ := row_shape hown; clear hown hgrow hat))
      have HRW := Lib.hid (show RowL w7.heap.size w7 w9 (.slice fa (ci + co) fc) (insL m ++ outsL m) from RowL.app HUS1.out HSL1.out HUS2.out HSL2.out (by rw [← HCI.out, ← HCO.out]; exact HO9.out))
      have HS9 := Lib.hid (show SlL w9 (.slice fa (ci + co) fc) (insL m ++ outsL m) by
        have q := RowL.slL HRW.out HB9.out (fun l hl => wf_okN HOM.out l (by
          rcases List.mem_append.1 hl with z | z
          · exact (List.mem_filter.1 z).1
          · exact (List.mem_filter.1 z).1))
        exact q)
      obtain ⟨tt, htt⟩ : ∃ z, z = ci + co := ⟨_, rfl⟩
      rw [← htt] at HS9
      have HTT := Lib.hid htt
      have htb : tt ≤ 60 := by omega
      have HTL := Lib.hid (show tt = (insL m ++ outsL m).length by rw [List.length_append, ← HCI.out, ← HCO.out]; exact htt)
      have G9 := Lib.hid (blk_in G7.out HB9.out)
      have HB9w := Lib.hid (HB7.out.trans (HB9.out.mono HB7.out.size))
      clear k0 k1 gl m0 m1 ml' HO8 HO9 HRW HC1 HC2 HN1 HN2 H1 H2 HLN1 HLN2
      go_wp2_with fail
      try rw [← htt]
      clear htt
      go_loopw [35] (fun i wr => ∃ j : Nat, j ≤ tt ∧ i = .int .i64 j ∧ Hid (((insL m ++ outsL m).take j).any hasT = false) ∧ Hid (Below w9.heap.size w9 wr)) (fun i _ => tt - (intOf i).toNat)
      case atStart => exact ⟨0, Nat.zero_le _, rfl, Lib.hid rfl, Lib.hid (Below.refl _ _)⟩
      case round =>
        obtain ⟨j, hjl, rfl, HA, HBW⟩ := hrel
        have HBWw := Lib.hid (HB9w.out.trans (HBW.out.mono HB9w.out.size))
        by_cases hlt : j < tt
        case pos =>
          have dj : decide ((j : Int) < (ci : Int) + (co : Int)) = true := decide_eq_true (by have := HTT.out; omega)
          obtain ⟨y, hy⟩ : ∃ y, (insL m ++ outsL m)[j]? = some y := ⟨_, List.getElem?_eq_getElem (by rw [← HTL.out]; exact hlt)⟩
          obtain ⟨yb, yo, pcv, hpe, hyb, e0, e1, e2, e3, e4, es⟩ := (HS9.out.below HBW.out).atb hy
          subst hpe
          have HY := Lib.hid hy
          obtain ⟨x0, x1, x2, x3, row⟩ := y
          simp only [] at e0 e1 e2 e3 e4 es
          obtain ⟨ua, uc, rfl⟩ := es.shape
          have hrl := es.len
          obtain ⟨ul, hul⟩ : ∃ q, q = row.length := ⟨_, rfl⟩
          rw [← hul] at e4 hrl
          have HT := Lib.hid (show hasT ⟨x0, x1, x2, x3, row⟩ = decide (0 < ul) by rw [hul]; rfl)
          clear hul es hy
          by_cases ht : 0 < ul
          · have d1 : decide ((ul : Int) > 0) = true := decide_eq_true (by omega)
            have d2 : decide (0 < (ul : Int)) = true := decide_eq_true (by omega)
            have HAN := Lib.hid (show (insL m ++ outsL m).any hasT = true from List.any_eq_true.2 ⟨_, List.mem_of_getElem? HY.out, by rw [HT.out]; exact decide_eq_true ht⟩)
            have HRF := Lib.hid (show R = false by
              have q := HAN.out
              rw [List.any_append] at q
              rw [HE.out]
              cases a1 : (insL m).any hasT
              · rw [a1] at q
                simp at q
                simp [q]
              · simp)
            obtain rfl := HRF.out
            go_wp2_with fail
            go_ret
            exact ⟨rfl, by first | exact HBWw.out.al _ | exact HBWw.out⟩
          · have d1 : decide ((ul : Int) > 0) = false := decide_eq_false (by omega)
            have d2 : decide (0 < (ul : Int)) = false := decide_eq_false (by omega)
            have HA1 := Lib.hid (anyT_stepS HY.out HA.out (by rw [HT.out]; exact decide_eq_false ht))
            have HC1' := Lib.hid (HBW.out.al (.cells #[.int .i64 x0, .int .i64 x1, .int .i64 x2, .int .i64 x3, .slice ua ul uc] 68))
            go_wp2_with fail
            go_roundw
            case rel => exact ⟨j + 1, by omega, by go_num, HA1, HC1'⟩
            case measure => simp [intOf]; omega
        obtain rfl : tt = j := by omega
        have dj : decide ((tt : Int) < (ci : Int) + (co : Int)) = false := decide_eq_false (by have := HTT.out; omega)
        have HAN := Lib.hid (show (insL m).any hasT = false ∧ (outsL m).any hasT = false by
          have q := HA.out
          rw [List.take_of_length_le (by rw [← HTL.out]; omega), List.any_append] at q
          simpa using q)
        have HR2 := Lib.hid (show R = (decide ((ci : Int) = x.ins) && decide ((co : Int) = x.outs)) by rw [HE.out, HAN.out.1, HAN.out.2, ← HCI.out, ← HCO.out]; simp)
        have GR := Lib.hid (blk_in G9.out HBW.out)
        obtain ⟨k0, k1⟩ := cells2 GR.out
        have gl := lt_of GR.out
        obtain ⟨d0, d1, dl⟩ := HD.out _ HBWw.out
        have i1 : (0 : Int) ≤ (kk : Int) := by omega
        have i2 : (kk : Int) < (pm : Int) := by omega
        obtain ⟨XI, hXI⟩ : ∃ z, z = x.ins := ⟨_, rfl⟩
        obtain ⟨XO, hXO⟩ : ∃ z, z = x.outs := ⟨_, rfl⟩
        rw [← hXI] at d0 HR2
        rw [← hXO] at d1 HR2
        clear hXI hXO
        by_cases h1 : (ci : Int) = XI
        · have q1 : ((ci : Int) == XI) = true := by simp [h1]
          by_cases h2 : (co : Int) = XO
          · have q2 : ((co : Int) == XO) = true := by simp [h2]
            have HR3 := Lib.hid (show R = true by rw [HR2.out, decide_eq_true h1, decide_eq_true h2]; rfl)
            clear h1 h2
            obtain rfl := HR3.out
            go_wp2_with fail
            go_ret
            exact ⟨ret_bool (by simp_all), HBWw.out⟩
          · have q2 : ((co : Int) == XO) = false := by simp [h2]
            have HR3 := Lib.hid (show R = false by rw [HR2.out, decide_eq_false h2]; simp)
            clear h1 h2
            obtain rfl := HR3.out
            go_wp2_with fail
            go_ret
            exact ⟨ret_bool (by simp_all), HBWw.out⟩
        · have q1 : ((ci : Int) == XI) = false := by simp [h1]
          have HR3 := Lib.hid (show R = false by rw [HR2.out, decide_eq_false h1]; simp)
          clear h1
          obtain rfl := HR3.out
          go_wp2_with fail
          go_ret
          exact ⟨ret_bool (by simp_all), HBWw.out⟩
end Go.Proofs.Ytkeoefbkeommhaa
