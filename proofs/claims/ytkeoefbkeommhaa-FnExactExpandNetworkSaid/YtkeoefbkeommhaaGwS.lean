/-
  DropProcess of the model. No statement of the seat is proved here.
-/
import Derived.Test.YtkeoefbkeommhaaRcw
import Derived.Test.YtkeoefbkeommhaaSlp
import Derived.Test.YtkeoefbkeommhaaNpi
import Derived.Deep.CutRange
namespace Go.Proofs.Ytkeoefbkeommhaa
open Go.RowKit

theorem GrowL.ext {lo k : Nat} {w : World} {o : Value} {xs ys : List Lnk} (h : GrowL lo k w o xs) (e : xs.take k = ys.take k) : GrowL lo k w o ys := by
  obtain ⟨us, a, b, c, d⟩ := h
  rw [e] at b c d
  exact ⟨us, a, b, c, d⟩
theorem GrowP.ext {lo k : Nat} {w : World} {o : Value} {xs ys : List Prg} (h : GrowP lo k w o xs) (e : xs.take k = ys.take k) : GrowP lo k w o ys := by
  obtain ⟨us, a, b, c, d⟩ := h
  rw [e] at b c d
  exact ⟨us, a, b, c, d⟩
theorem set5_0 {w : World} {g T : Nat} {u0 u1 u2 u3 u4 : Value} (h : w.heap[g]? = some (.cells #[u0, u1, u2, u3, u4] T)) (v : Value) : (w.setCell ⟨g, 0, none⟩ v).heap[g]? = some (.cells #[v, u1, u2, u3, u4] T) := by
  rw [heap_setCell_same w g 0 #[u0, u1, u2, u3, u4] T v h]; rfl
theorem set5_1 {w : World} {g T : Nat} {u0 u1 u2 u3 u4 : Value} (h : w.heap[g]? = some (.cells #[u0, u1, u2, u3, u4] T)) (v : Value) : (w.setCell ⟨g, 1, none⟩ v).heap[g]? = some (.cells #[u0, v, u2, u3, u4] T) := by
  rw [heap_setCell_same w g 1 #[u0, u1, u2, u3, u4] T v h]; rfl
theorem set5_2 {w : World} {g T : Nat} {u0 u1 u2 u3 u4 : Value} (h : w.heap[g]? = some (.cells #[u0, u1, u2, u3, u4] T)) (v : Value) : (w.setCell ⟨g, 2, none⟩ v).heap[g]? = some (.cells #[u0, u1, v, u3, u4] T) := by
  rw [heap_setCell_same w g 2 #[u0, u1, u2, u3, u4] T v h]; rfl
theorem set5_3 {w : World} {g T : Nat} {u0 u1 u2 u3 u4 : Value} (h : w.heap[g]? = some (.cells #[u0, u1, u2, u3, u4] T)) (v : Value) : (w.setCell ⟨g, 3, none⟩ v).heap[g]? = some (.cells #[u0, u1, u2, v, u4] T) := by
  rw [heap_setCell_same w g 3 #[u0, u1, u2, u3, u4] T v h]; rfl
/-- An index behind which the process k has gone. -/
def lessI (k i : Int) : Int := if k < i then i - 1 else i
theorem lessI_wf {k i : Int} (h0 : -9223372036854775807 ≤ i) (h1 : i ≤ 9223372036854775807) : -9223372036854775808 ≤ lessI k i ∧ lessI k i ≤ 9223372036854775807 := by
  unfold lessI; split <;> omega
set_option maxHeartbeats 800000 in
theorem sless_any (i k : Int) (w : World) (h0 : -9223372036854775807 ≤ i) (h1 : i ≤ 9223372036854775807) :
    Calls Try.prog 73 #[.int .i64 i, .int .i64 k] w fun e w' => e = .returned (.int .i64 (lessI k i)) ∧ w = w' := by
  unfold lessI
  by_cases h : k < i
  · have hw : wrap64 (i - 1) = i - 1 := IntWalk.wrap64_in _ (by omega)
    rw [if_pos h]
    go_enter Try.func73, Try.ntmps73
    go_wp2_with fail
    go_ret
    exact ⟨rfl, rfl⟩
  · rw [if_neg h]
    go_enter Try.func73, Try.ntmps73
    go_wp2_with fail
    go_ret
    exact ⟨rfl, rfl⟩
theorem behE_less (k : Nat) (a b : Int) : behE k (a, b) = (lessI (k : Int) a, b) := by
  unfold behE lessI
  simp only []
  by_cases h : (k : Int) < a
  · rw [if_pos h, if_pos h]
  · rw [if_neg h, if_neg h]
theorem end_pos {f : Prg → Int} {ps : List Prg} {e : End} (h : e = outE ∨ e ∈ ports f ps) : e = outE ∨ 0 ≤ e.1 := by
  rcases h with h | h
  · exact .inl h
  · obtain ⟨i, p, hp, h1, h2, h3⟩ := mem_ports.1 h
    exact .inr (by omega)
theorem end_wf {f : Prg → Int} {ps : List Prg} {e : End} (hf : ∀ p, okP p = true → f p ≤ 3) (ha : ps.all okP = true) (hl : ps.length ≤ 12) (h : e = outE ∨ e ∈ ports f ps) : wfE e ∧ -1 ≤ e.1 ∧ e.1 ≤ 12 := by
  rcases h with rfl | h
  · unfold wfE wfI outE; simp
  · obtain ⟨i, p, hp, h1, h2, h3⟩ := mem_ports.1 h
    have a := hf p (all_get ha hp)
    have b := (List.getElem?_eq_some_iff.1 hp).1
    refine ⟨⟨⟨by omega, by omega⟩, ⟨by omega, by omega⟩⟩, by omega, by omega⟩
theorem ok_ends {n : Net} (h : okN n = true) {l : Lnk} (hl : l ∈ n.links) : (wfE l.src ∧ -1 ≤ l.src.1 ∧ l.src.1 ≤ 12) ∧ (wfE l.tgt ∧ -1 ≤ l.tgt.1 ∧ l.tgt.1 ≤ 12) := by
  obtain ⟨hh, h2, _, _⟩ := (okN_iff n).1 h
  obtain ⟨_, a2, a3⟩ := h2 l hl
  have hp := headL_parts hh
  exact ⟨end_wf (fun p q => (okP_outs q).2) hp.2.2 hp.1 a2, end_wf (fun p q => (okP_ins q).2) hp.2.2 hp.1 a3⟩
theorem wf_okN {n : Net} (h : okN n = true) : ∀ l ∈ n.links, wfL l := fun _ hl => ⟨(ok_ends h hl).1.1, (ok_ends h hl).2.1⟩
/-- Where a link of the network that is left comes from and leads. -/
theorem drop_ends {n : Net} (h : okN n = true) (k : Nat) {l : Lnk} (hl : l ∈ n.links) : (repE k dropF l.src = outE ∨ 0 ≤ (repE k dropF l.src).1) ∧ (repE k dropF l.tgt = outE ∨ 0 ≤ (repE k dropF l.tgt).1) := by
  obtain ⟨hh, h2, _, _⟩ := (okN_iff n).1 h
  obtain ⟨_, a2, a3⟩ := h2 l hl
  exact ⟨end_pos (rep_end a2), end_pos (rep_end a3)⟩
theorem GrowL.more {lo c : Nat} {w : World} {o : Value} {ys : List Lnk} (h : GrowL lo c w o ys) (hc : c = ys.length) (a : Lnk) : GrowL lo c w o (ys ++ [a]) ∧ (ys ++ [a])[c]? = some a := by
  subst hc
  refine ⟨h.ext (by simp), by simp⟩
/-- How many programs are left of the first j. -/
def cntP (k j : Nat) : Nat := if j ≤ k then j else j - 1
theorem cntP_at {ps : List Prg} {k j : Nat} {x : Prg} (hx : ps[j]? = some x) (hne : j ≠ k) : (ps.eraseIdx k)[cntP k j]? = some x ∧ cntP k (j + 1) = cntP k j + 1 := by
  unfold cntP
  rw [List.getElem?_eraseIdx]
  by_cases h : j ≤ k
  · rw [if_pos h, if_pos (by omega), if_pos (by omega)]
    exact ⟨hx, rfl⟩
  · rw [if_neg h, if_neg (by omega), if_neg (by omega)]
    refine ⟨?_, by omega⟩
    rw [show j - 1 + 1 = j by omega]
    exact hx
theorem cntP_skip (k : Nat) : cntP k (k + 1) = cntP k k := by
  unfold cntP; rw [if_neg (by omega), if_pos (by omega)]; omega
theorem cntP_le (k j : Nat) : cntP k j ≤ j := by unfold cntP; split <;> omega
theorem cntP_end {ps : List Prg} {k : Nat} (hk : k < ps.length) : (ps.eraseIdx k).length = cntP k ps.length := by
  unfold cntP; rw [if_neg (by omega), List.length_eraseIdx_of_lt hk]

set_option maxRecDepth 100000 in
set_option maxHeartbeats 16000000 in
theorem sdrop_any (v : Value) (n : Net) (k : Int) (w : World) (h : NetV w v n) (hwk : (Lit.int .i64 k).wf = true) :
    Calls Try.prog 30 #[v, .int .i64 k] w fun e w' => ∃ r, e = .returned (.tuple #[r, .bool (dropB n k)]) ∧ NetR w.heap.size w'.heap.size w' r (dropProcessR0 n k) ∧ Below w.heap.size w w' := by
  have CN := Lib.hid (fun (W : World) (hw : Below w.heap.size w W) => sisnet_any v n W (h.below hw))
  have CH0 := Lib.hid (fun (W : World) (hw : Below w.heap.size w W) => shas_any v n k W (h.below hw))
  have HWF := Lib.hid h.wf
  obtain ⟨pv, lv, rfl, hp, hl⟩ := h
  have LP := hp.len
  have LL := hl.len
  have HL := Lib.hid hl
  have HP := Lib.hid hp
  obtain ⟨la, lcap, rfl⟩ := hl.shape
  obtain ⟨pa, pcap, rfl⟩ := hp.shape
  obtain ⟨m, hm⟩ : ∃ m, m = n.progs.length := ⟨_, rfl⟩
  obtain ⟨ll, hll⟩ : ∃ m, m = n.links.length := ⟨_, rfl⟩
  rw [← hm, ← hll] at CN CH0 ⊢
  rw [← hm] at HP LP
  rw [← hll] at HL LL
  have NP := Lib.hid hm
  have NL := Lib.hid hll
  clear hp hl hm hll
  obtain ⟨R0, hR0⟩ : ∃ R, R = dropProcessR0 n k := ⟨_, rfl⟩
  obtain ⟨R1, hR1⟩ : ∃ R, R = dropB n k := ⟨_, rfl⟩
  rw [← hR0, ← hR1]
  have HNO := Lib.hid (show dropB n k = false → R1 = false ∧ R0 = ⟨[], []⟩ from fun e => ⟨hR1.trans e, hR0.trans (drop_no e)⟩)
  have HYES := Lib.hid (show dropB n k = true → R1 = true ∧ R0 = repN n k.toNat dropF dropF from fun e => ⟨hR1.trans e, hR0.trans (drop_yes e)⟩)
  clear hR0 hR1
  have hb := Lib.hid (((Below.refl w.heap.size w).al (.cells #[.slice pa m pcap, .slice la ll lcap] 31)).al (.cells #[.slice none 0 0, .slice none 0 0] 31))
  have hH := Lib.hid (hp21 w (.cells #[.slice pa m pcap, .slice la ll lcap] 31) (.cells #[.slice none 0 0, .slice none 0 0] 31))
  have hH1 := Lib.hid (hp2 w (.cells #[.slice pa m pcap, .slice la ll lcap] 31) (.cells #[.slice none 0 0, .slice none 0 0] 31))
  cases ho : okN n with
  | false =>
    obtain ⟨rfl, rfl⟩ := HNO.out (dropB_no1 ho)
    rw [ho] at CN
    clear ho HNO HYES
    go_enter Try.func30, Try.ntmps30
    go_wp2_with (go_at_call 45; with_reducible refine (CN.out _ hb.out).mono ?_; rintro e w2 ⟨rfl, hb1⟩; have HB2 := Lib.hid (hb.out.trans (hb1.mono hb.out.size)); have G2 := Lib.hid (blk_in hH.out hb1); have J2 := Lib.hid (blk_in hH1.out hb1); obtain ⟨k0, k1⟩ := cells2 G2.out; have gl := lt_of G2.out; obtain ⟨r0, r1⟩ := cells2 J2.out; have rl := lt_of J2.out; have rz0 := fr_of J2.out 0; have rz1 := fr_of J2.out 1; clear hb1)
    refine bodyPost_ret (v := .tuple #[.agg #[.slice none 0 0, .slice none 0 0], .bool false]) (by simp [results, Try.results30, go_sem, r0, r1]) rfl ⟨_, rfl, netR_nil _ _ _, ?_⟩
    first | exact HB2.out | exact (HB2.out.setCell (by simp) _).setCell (by simp) _
  | true =>
    rw [ho] at CN
    have HOK := Lib.hid ho
    have hll30 : ll ≤ 30 := by rw [NL.out]; exact (okN_len ho).2.1
    have hm12 : m ≤ 12 := by rw [NP.out]; exact (okN_len ho).1
    clear ho
    by_cases hk : 0 ≤ k ∧ k < (m : Int)
    case neg =>
      obtain ⟨rfl, rfl⟩ := HNO.out (dropB_no2 (by rw [← NP.out]; exact hk))
      have CH := Lib.hid (fun (W : World) (hw : Below w.heap.size w W) => (show Calls Try.prog 67 #[.agg #[.slice pa m pcap, .slice la ll lcap], .int .i64 k] W fun e w' => e = .returned (.bool false) ∧ Below W.heap.size W w' by have q := CH0.out W hw; unfold hasP at q; rw [← NP.out, decide_eq_false hk] at q; exact q))
      clear hk HNO HYES CH0
      go_enter Try.func30, Try.ntmps30
      go_wp2_with (first | (go_at_call 67; with_reducible refine (CH.out _ HB2.out).mono ?_; rintro e w3 ⟨rfl, hb3⟩; have HB3 := Lib.hid (HB2.out.trans (hb3.mono HB2.out.size)); have G3 := Lib.hid (blk_in G2.out hb3); have J3 := Lib.hid (blk_in J2.out hb3); clear k0 k1 gl r0 r1 rl rz0 rz1; obtain ⟨k0, k1⟩ := cells2 G3.out; have gl := lt_of G3.out; obtain ⟨r0, r1⟩ := cells2 J3.out; have rl := lt_of J3.out; have rz0 := fr_of J3.out 0; have rz1 := fr_of J3.out 1; clear hb3) | (go_at_call 45; with_reducible refine (CN.out _ hb.out).mono ?_; rintro e w2 ⟨rfl, hb1⟩; have HB2 := Lib.hid (hb.out.trans (hb1.mono hb.out.size)); have G2 := Lib.hid (blk_in hH.out hb1); have J2 := Lib.hid (blk_in hH1.out hb1); obtain ⟨k0, k1⟩ := cells2 G2.out; have gl := lt_of G2.out; obtain ⟨r0, r1⟩ := cells2 J2.out; have rl := lt_of J2.out; have rz0 := fr_of J2.out 0; have rz1 := fr_of J2.out 1; clear hb1))
      refine bodyPost_ret (v := .tuple #[.agg #[.slice none 0 0, .slice none 0 0], .bool false]) (by simp [results, Try.results30, go_sem, r0, r1]) rfl ⟨_, rfl, netR_nil _ _ _, ?_⟩
      first | exact HB3.out | exact (HB3.out.setCell (by simp) _).setCell (by simp) _
    have CH := Lib.hid (fun (W : World) (hw : Below w.heap.size w W) => (show Calls Try.prog 67 #[.agg #[.slice pa m pcap, .slice la ll lcap], .int .i64 k] W fun e w' => e = .returned (.bool true) ∧ Below W.heap.size W w' by have q := CH0.out W hw; unfold hasP at q; rw [← NP.out, decide_eq_true hk] at q; exact q))
    obtain ⟨kk, rfl⟩ : ∃ kk : Nat, k = kk := ⟨k.toNat, by omega⟩
    have hkm : kk < m := by omega
    obtain ⟨rfl, rfl⟩ := HYES.out (dropB_at HOK.out (by rw [← NP.out]; exact hkm))
    rw [Int.toNat_natCast]
    clear hk HNO HYES CH0
    obtain ⟨i0, hi, hz0, hz1, hz2⟩ := infoP_parts
    obtain ⟨j0, hj, hy0, hy1, hy2⟩ := infoL_parts
    go_enter Try.func30, Try.ntmps30
    go_upto_region 3 with (first | (go_at_call 67; with_reducible refine (CH.out _ HB2.out).mono ?_; rintro e w3 ⟨rfl, hb3⟩; have HB3 := Lib.hid (HB2.out.trans (hb3.mono HB2.out.size)); have G3 := Lib.hid (blk_in G2.out hb3); have J3 := Lib.hid (blk_in J2.out hb3); clear k0 k1 gl r0 r1 rl rz0 rz1; obtain ⟨k0, k1⟩ := cells2 G3.out; have gl := lt_of G3.out; obtain ⟨r0, r1⟩ := cells2 J3.out; have rl := lt_of J3.out; have rz0 := fr_of J3.out 0; have rz1 := fr_of J3.out 1; clear hb3) | (go_at_call 45; with_reducible refine (CN.out _ hb.out).mono ?_; rintro e w2 ⟨rfl, hb1⟩; have HB2 := Lib.hid (hb.out.trans (hb1.mono hb.out.size)); have G2 := Lib.hid (blk_in hH.out hb1); have J2 := Lib.hid (blk_in hH1.out hb1); obtain ⟨k0, k1⟩ := cells2 G2.out; have gl := lt_of G2.out; obtain ⟨r0, r1⟩ := cells2 J2.out; have rl := lt_of J2.out; have rz0 := fr_of J2.out 0; have rz1 := fr_of J2.out 1; clear hb1))
    clear r0 r1 rl rz0 rz1
    go_wp2_with fail
    generalize hW : w3.alloc (.cells #[.slice none 0 0, .slice none 0 0] 31) = w4
    have HC4 := Lib.hid (show Below w3.heap.size w3 w4 by rw [← hW]; exact (Below.refl _ _).al _)
    obtain ⟨B, hB⟩ : ∃ B, B = w3.heap.size := ⟨_, rfl⟩
    have HS4 := Lib.hid (show w4.heap[B]? = some (.cells #[.slice none 0 0, .slice none 0 0] 31) by rw [← hW, hB]; exact hp1 _ _)
    rw [← hB]
    have HB0 := Lib.hid (show w.heap.size + 2 ≤ B by rw [hB]; have := lt_of J3.out; omega)
    clear hW hB
    have HB4 := Lib.hid (HB3.out.trans (HC4.out.mono HB3.out.size))
    have G4 := Lib.hid (blk_in G3.out HC4.out)
    have J4 := Lib.hid (blk_in J3.out HC4.out)
    have HBL := Lib.hid (lt_of HS4.out)
    clear k0 k1 gl
    go_loopw [26] (fun i wr => ∃ (j : Nat) (oa : Option Addr) (oc : Nat), j ≤ m ∧ i = .int .i64 j ∧ Hid (wr.heap[B]? = some (.cells #[.slice oa (cntP kk j) oc, .slice none 0 0] 31)) ∧ Hid (GrowP w4.heap.size (cntP kk j) wr (.slice oa (cntP kk j) oc) (n.progs.eraseIdx kk)) ∧ Hid (Out B (B + 1) w4 wr)) (fun i _ => m - (intOf i).toNat)
    case atStart => exact ⟨0, none, 0, Nat.zero_le _, rfl, by rw [show cntP kk 0 = 0 from rfl]; exact HS4, by rw [show cntP kk 0 = 0 from rfl]; exact Lib.hid (GrowP.nil _ _ _), Lib.hid (Out.refl _ _ _)⟩
    case round =>
      obtain ⟨j, oa, oc, hjm, rfl, HS, HG, HO⟩ := hrel
      have HBW := Lib.hid (HO.out.below HB4.out HB4.out.size (by have := HB0.out; omega))
      by_cases hlt : j < m
      case pos =>
        obtain ⟨x, hx⟩ : ∃ x, (n.progs)[j]? = some x := ⟨_, List.getElem?_eq_getElem (by rw [← NP.out]; exact hlt)⟩
        obtain ⟨gb, go, pcv, rfl, hgb, e0, e1, e2, es⟩ := (HP.out.below HBW.out).atb hx
        have HX := Lib.hid hx
        have HLB := Lib.hid ((ok_small HOK.out).2.1 x (List.mem_of_getElem? hx))
        clear hx
        have ES := Lib.hid es
        obtain ⟨x0, x1, row⟩ := x
        simp only [] at e0 e1 e2 ES HLB
        obtain ⟨ua, uc, rfl⟩ := es.shape
        by_cases hjk : j = kk
        · subst hjk
          have HCN := Lib.hid (cntP_skip j)
          have HC1 := Lib.hid (show Below wr.heap.size wr (wr.alloc (.cells #[.int .i64 x0, .int .i64 x1, .slice ua row.length uc] 79)) from (Below.refl _ _).al _)
          have HS1 := Lib.hid (blk_in HS.out HC1.out)
          have HG1 := Lib.hid (HG.out.below HC1.out)
          have HO1 := Lib.hid (HO.out.belowHi HC1.out)
          rw [← HCN.out] at HS1 HG1
          clear es ES HCN
          go_wp2_with fail
          go_roundw
          case rel => exact ⟨j + 1, oa, oc, by omega, by go_num, HS1, HG1, HO1⟩
          case measure => simp [intOf]; omega
        have CA0 := fun (W : World) (hw : Below wr.heap.size wr W) => sl3prog_any x0 x1 (.slice ua row.length uc) row W (ES.out.below hw) (by have := HLB.out; omega)
        obtain ⟨ul, hul⟩ : ∃ q, q = row.length := ⟨_, rfl⟩
        rw [← hul] at e2 CA0
        clear hul es ES
        obtain ⟨us, lus, ltk, hU1, hU2⟩ := HG.out
        have HU0 := Lib.hid hU1
        have HU2 := Lib.hid hU2
        have HAT := Lib.hid (cntP_at HX.out hjk)
        obtain ⟨c, hc⟩ : ∃ c, c = cntP kk j := ⟨_, rfl⟩
        have hcj : c ≤ 12 := by rw [hc]; have := cntP_le kk j; omega
        have HC := Lib.hid hc
        rw [← hc] at HU0 HU2 HAT HS lus ltk
        have LTK := Lib.hid ltk
        have HUB := Lib.hid (show ∀ u q, u ∈ us → u.ownBlock = some q → q < wr.heap.size from fun u q hu he => fam_hiI HU2.out u hu q he)
        have HNE := Lib.hid (show some B ≠ (Value.slice oa c oc).ownBlock from fun e => by have := (World.ownsRow.lt HU0.out B e.symm).1; have := HBL.out; omega)
        have hjk1 : (((j : Nat) : Int) != ((kk : Nat) : Int)) = true := by simp; omega
        clear hU1 hU2 ltk hc hjk
        have hz1w : w4.heap.size ≤ wr.heap.size := HO.out.size
        go_upto_region 8 with fail
        generalize hW : wr.alloc (.cells #[.int .i64 x0, .int .i64 x1, .slice ua ul uc] 79) = W1
        have HC1 := Lib.hid (show Below wr.heap.size wr W1 by rw [← hW]; exact (Below.refl _ _).al _)
        obtain ⟨p0, p1, p2⟩ := cells3 (show W1.heap[wr.heap.size]? = _ by rw [← hW]; exact hp1 _ _)
        have pl := lt_of (show W1.heap[wr.heap.size]? = _ by rw [← hW]; exact hp1 _ _)
        clear hW
        have B1 := Lib.hid (blk_in HS.out HC1.out)
        have HU1 := Lib.hid (row_below HU0.out HC1.out)
        obtain ⟨b0, b1⟩ := cells2 B1.out
        have bl := lt_of B1.out
        have bz := fr_of B1.out 0
        have hz1' : w4.heap.size ≤ W1.heap.size := Nat.le_trans hz1w HC1.out.size
        have CA := Lib.hid (fun (W : World) (hw : Below W1.heap.size W1 W) => CA0 W (HC1.out.trans (hw.mono HC1.out.size)))
        clear CA0
        refine wp_open' ?_
        intro K9 hK9
        go_cut [26] from 26 to 41 (fun i wz => ∃ (oa' : Option Addr) (oc' : Nat), i = .int .i64 j ∧ Hid (wz.heap[B]? = some (.cells #[.slice oa' (c + 1) oc', .slice none 0 0] 31)) ∧ Hid (GrowP w4.heap.size (c + 1) wz (.slice oa' (c + 1) oc') (n.progs.eraseIdx kk)) ∧ Hid (Out B (B + 1) w4 wz))
        case first =>
          go_region_law (first | (refine Go.step_append_lies _ rfl (.tmp 35) (.tmp 38) 28 rfl w4.heap.size 79 i0 (.agg #[.int .i64 0, .int .i64 0, .slice none 0 0]) 3 40 Try.underlying28 hi hz0 hz1 hz2 rfl (by decide) (.slice oa c oc) c (cellsP ((n.progs.eraseIdx kk).take c) us) rfl (World.ownsRow.alloc (row_below HU1.out hs5.out) _) ⟨W5.heap.size, 0, none⟩ 1 1 [.int .i64 x0, .int .i64 x1, .slice xa row.length xc] rfl rfl (lit_cells W5 #[.int .i64 x0, .int .i64 x1, .slice xa row.length xc] 79) (by intro u hu; simp at hu; rcases hu with rfl | rfl | rfl <;> rfl) (by omega) (by unfold maxLen; omega) (by omega) (by have := hz5; simp; omega) (W5.heap.size + 1) (by simp) ?_; intro g gc w6 hown hgrow hor hglt; have BB := grow_box B5.out hgrow HNE.out; obtain ⟨d0, d1⟩ := cells2 BB; have dz := fr_of BB 0; have dl := lt_of BB; have HOW := Lib.hid hown; have HGR := Lib.hid hgrow; have HB6 := Lib.hid BB; clear hown hgrow hor hglt BB) | (go_simp; go_at_call 60; refine (CA.out _ (by first | with_reducible exact Below.refl _ _ | with_reducible exact (Below.refl _ _).drew)).mono ?_; rintro e W5 ⟨c5, rfl, o5, hb5⟩; have hs5 := Lib.hid (show Below W1.heap.size W1 W5 by first | with_reducible exact hb5 | with_reducible exact cr_d hb5); have O5 := Lib.hid (OwnI.mono (lo' := W1.heap.size) o5 (by first | exact Nat.le_refl _ | simp)); have hz5 : w4.heap.size ≤ W5.heap.size := Nat.le_trans hz1' hs5.out.size; have B5 := Lib.hid (blk_in B1.out hs5.out); obtain ⟨y0, y1⟩ := cells2 B5.out; have yz := fr_of B5.out 0; have yl := lt_of B5.out; obtain ⟨xa, xc, rfl⟩ := O5.out.shape; clear o5 hb5))
          all_goals (
            go_wp2_with fail
            go_meet
            case rel =>
              refine ⟨some ⟨g, 0, none⟩, gc, rfl, Lib.hid (set2_0 HB6.out _), Lib.hid ?_, Lib.hid ?_⟩
              · have F5 := HU2.out.below (HC1.out.trans (hs5.out.mono HC1.out.size))
                have S := GrowP.step (a := ⟨x0, x1, row⟩) (w3 := W5.alloc (.cells #[.int .i64 x0, .int .i64 x1, .slice xa row.length xc] 79)) lus (World.ownsRow.alloc (row_below HU1.out hs5.out) _) (F5.below ((Below.refl _ _).al _)) (O5.out.below ((Below.refl _ _).al _)) (fun u q hu he => Nat.lt_of_lt_of_le (HUB.out u q hu he) HC1.out.size) hz1' HAT.out.1 HOW.out HGR.out
                exact S.out ((Out.refl B (B + 1) w6).setC (p := ⟨B, 0, none⟩) (Nat.le_refl _) (Nat.lt_succ_self _) _) HBL.out
              · exact ((((HO.out.belowHi HC1.out).belowHi hs5.out).al _).grownHi HGR.out (fun q e => (World.ownsRow.lt HU1.out q e).1)).setC (p := ⟨B, 0, none⟩) (Nat.le_refl _) (Nat.lt_succ_self _) _)
        case rest =>
          obtain ⟨oa', oc', rfl, HS', HG', HO'⟩ := hcut
          refine hK9 _ _ ?_
          have hc1 := HAT.out.2
          rw [← hc1] at HS' HG'
          clear hc1
          go_wp2_with fail
          go_roundw
          case rel => exact ⟨j + 1, oa', oc', by omega, by go_num, HS', HG', HO'⟩
          case measure => simp [intOf]; omega
      obtain rfl : m = j := by omega
      have hpe : (n.progs.eraseIdx kk).length = cntP kk m := by rw [cntP_end (by rw [← NP.out]; exact hkm), ← NP.out]
      have HPR := Lib.hid (HG.out.done hpe)
      have HPE := Lib.hid hpe
      clear hpe
      have GR := Lib.hid (HO.out.blk G4.out (.inl (by have := HB0.out; omega)))
      have JR := Lib.hid (HO.out.blk J4.out (.inl (by have := HB0.out; omega)))
      obtain ⟨w5, hw5⟩ : ∃ W, W = wr := ⟨_, rfl⟩
      subst hw5
      obtain ⟨mP, hmP⟩ : ∃ z, z = cntP kk m := ⟨_, rfl⟩
      rw [← hmP] at HS HPR HPE
      clear hmP
      have HS5 := Lib.hid HS.out
      have HBw5 := Lib.hid HBW.out
      have HBL5 := Lib.hid (lt_of HS.out)
      have HO45 := Lib.hid HO.out
      obtain ⟨pA, hpA⟩ : ∃ z, z = oa := ⟨_, rfl⟩
      subst hpA
      obtain ⟨pC, hpC⟩ : ∃ z, z = oc := ⟨_, rfl⟩
      subst hpC
      clear HS HG HO HBW
      obtain ⟨k0, k1⟩ := cells2 GR.out
      have gl := lt_of GR.out
      go_wp2_with fail
      clear k0 k1 gl
      go_loopw [45] (fun i wr => ∃ (j c : Nat) (oa : Option Addr) (oc : Nat), j ≤ ll ∧ i = .int .i64 j ∧ c ≤ j ∧ Hid (c = (repLs kk dropF dropF (n.links.take j)).length) ∧ Hid (wr.heap[B]? = some (.cells #[.slice pA mP pC, .slice oa c oc] 31)) ∧ Hid (GrowL w5.heap.size c wr (.slice oa c oc) (repLs kk dropF dropF (n.links.take j))) ∧ Hid (Out B (B + 1) w5 wr)) (fun i _ => ll - (intOf i).toNat)
      case atStart => exact ⟨0, 0, none, 0, Nat.zero_le _, rfl, Nat.le_refl _, Lib.hid rfl, HS5, Lib.hid (GrowL.nil _ _ _), Lib.hid (Out.refl _ _ _)⟩
      case round =>
        obtain ⟨j, c, oa, oc, hjl, rfl, hcj, HCL, HS, HG, HO⟩ := hrel
        have HBW := Lib.hid (HO.out.below HBw5.out HBw5.out.size (by have := HB0.out; omega))
        by_cases hlt : j < ll
        case pos =>
          obtain ⟨x, hx⟩ : ∃ x, (n.links)[j]? = some x := ⟨_, List.getElem?_eq_getElem (by rw [← NL.out]; exact hlt)⟩
          obtain ⟨gb, go, pcv, rfl, hgb, e0, e1, e2, e3, e4, es⟩ := (HL.out.below HBW.out).atb hx
          have hxm := List.mem_of_getElem? hx
          have HX := Lib.hid hx
          have HLB := Lib.hid (isS_len (tok_isS HOK.out hxm))
          have HXE := ok_ends HOK.out hxm
          have HDE := Lib.hid (drop_ends HOK.out kk hxm)
          clear hx hxm
          have ES := Lib.hid es
          obtain ⟨x0, x1, x2, x3, row⟩ := x
          simp only [] at e0 e1 e2 e3 e4 ES HLB
          have hx0 : -1 ≤ x0 ∧ x0 ≤ 12 := HXE.1.2
          have hx2 : -1 ≤ x2 ∧ x2 ≤ 12 := HXE.2.2
          clear HXE
          obtain ⟨ua, uc, rfl⟩ := es.shape
          have CA0 := fun (W : World) (hw : Below wr.heap.size wr W) => sl3link_any x0 x1 x2 x3 (.slice ua row.length uc) row W (ES.out.below hw) (by have := HLB.out; omega)
          obtain ⟨ul, hul⟩ : ∃ q, q = row.length := ⟨_, rfl⟩
          rw [← hul] at e4 CA0
          clear hul es ES
          have CL0 := Lib.hid (fun (W : World) => sless_any x0 (kk : Int) W (by omega) (by omega))
          have CL2 := Lib.hid (fun (W : World) => sless_any x2 (kk : Int) W (by omega) (by omega))
          have hz1w : w5.heap.size ≤ wr.heap.size := HO.out.size
          go_upto_region 13 with fail
          generalize hW : wr.alloc (.cells #[.int .i64 x0, .int .i64 x1, .int .i64 x2, .int .i64 x3, .slice ua ul uc] 68) = W1
          have HC1 := Lib.hid (show Below wr.heap.size wr W1 by rw [← hW]; exact (Below.refl _ _).al _)
          have X1 := Lib.hid (show W1.heap[wr.heap.size]? = some (.cells #[.int .i64 x0, .int .i64 x1, .int .i64 x2, .int .i64 x3, .slice ua ul uc] 68) by rw [← hW]; exact hp1 _ _)
          clear hW
          obtain ⟨X, hXe⟩ : ∃ z, z = wr.heap.size := ⟨_, rfl⟩
          have HXW := Lib.hid hXe
          rw [← hXe] at X1 ⊢
          clear hXe
          obtain ⟨p0, p1, p2, p3, p4⟩ := cells5 X1.out
          have pl := lt_of X1.out
          have CA := Lib.hid (fun (W : World) (hw : Below W1.heap.size W1 W) => CA0 W (HC1.out.trans (hw.mono HC1.out.size)))
          clear CA0
          go_upto_region 14 with (go_at_call 61; with_reducible refine (CA.out _ (Below.refl _ _)).mono ?_; rintro e W5 ⟨c5, rfl, o5, hb5⟩; have HS15 := Lib.hid hb5; have O5 := Lib.hid o5; have X5 := Lib.hid (blk_in X1.out hb5); obtain ⟨xa, xc, rfl⟩ := o5.shape; clear o5 hb5 p0 p1 p2 p3 p4 pl; obtain ⟨p0, p1, p2, p3, p4⟩ := cells5 X5.out; have pl := lt_of X5.out)
          generalize hW : W5.alloc (.cells #[.int .i64 x0, .int .i64 x1, .int .i64 x2, .int .i64 x3, .slice xa row.length xc] 68) = W6
          have HC6 := Lib.hid (show Below W5.heap.size W5 W6 by rw [← hW]; exact (Below.refl _ _).al _)
          have Y6 := Lib.hid (show W6.heap[W5.heap.size]? = some (.cells #[.int .i64 x0, .int .i64 x1, .int .i64 x2, .int .i64 x3, .slice xa row.length xc] 68) by rw [← hW]; exact hp1 _ _)
          clear hW
          obtain ⟨Y, hYe⟩ : ∃ z, z = W5.heap.size := ⟨_, rfl⟩
          have HYW := Lib.hid hYe
          rw [← hYe] at Y6 ⊢
          clear hYe
          have X6 := Lib.hid (blk_in X5.out HC6.out)
          have HXY : X < Y := by rw [HYW.out]; exact lt_of X5.out
          have HWY : wr.heap.size ≤ Y := by rw [HYW.out]; exact Nat.le_trans HC1.out.size HS15.out.size
          have HR6 := Lib.hid (HC1.out.trans ((HS15.out.trans (HC6.out.mono HS15.out.size)).mono HC1.out.size))
          have O6 := Lib.hid (O5.out.below HC6.out)
          have HOB := Lib.hid (show ∀ q, (Value.slice xa row.length xc).ownBlock = some q → W1.heap.size ≤ q ∧ q < Y from fun q e => by rw [HYW.out]; exact O5.out.lt q e)
          clear p0 p1 p2 p3 p4 pl
          obtain ⟨p0, p1, p2, p3, p4⟩ := cells5 X6.out
          have pl := lt_of X6.out
          obtain ⟨y0, y1, y2, y3, y4⟩ := cells5 Y6.out
          have yl := lt_of Y6.out
          have yz0 := fr_of Y6.out 0
          go_upto_region 15 with (go_at_call 73; with_reducible refine (CL0.out _).mono ?_; rintro e w' ⟨rfl, rfl⟩)
          obtain ⟨L0, hL0⟩ : ∃ z, z = lessI (kk : Int) x0 := ⟨_, rfl⟩
          rw [← hL0]
          have HL0 := Lib.hid hL0.symm
          generalize hW : W6.setCell ⟨Y, 0, none⟩ (.int .i64 L0) = W7
          have Y7 := Lib.hid (show W7.heap[Y]? = some (.cells #[.int .i64 L0, .int .i64 x1, .int .i64 x2, .int .i64 x3, .slice xa row.length xc] 68) by rw [← hW]; exact set5_0 Y6.out _)
          have HO7 := Lib.hid (show Out Y (Y + 1) W6 W7 by rw [← hW]; exact (Out.refl _ _ _).setC (p := ⟨Y, 0, none⟩) (Nat.le_refl _) (Nat.lt_succ_self _) _)
          clear hW p0 p1 p2 p3 p4 pl y0 y1 y2 y3 y4 yl yz0 hL0
          have X7 := Lib.hid (HO7.out.blk X6.out (.inl HXY))
          obtain ⟨p0, p1, p2, p3, p4⟩ := cells5 X7.out
          have pl := lt_of X7.out
          obtain ⟨y0, y1, y2, y3, y4⟩ := cells5 Y7.out
          have yl := lt_of Y7.out
          have yz2 := fr_of Y7.out 2
          go_upto_region 16 with (go_at_call 73; with_reducible refine (CL2.out _).mono ?_; rintro e w' ⟨rfl, rfl⟩)
          obtain ⟨L2, hL2⟩ : ∃ z, z = lessI (kk : Int) x2 := ⟨_, rfl⟩
          rw [← hL2]
          have HL2 := Lib.hid hL2.symm
          generalize hW : W7.setCell ⟨Y, 2, none⟩ (.int .i64 L2) = W8
          have Y8 := Lib.hid (show W8.heap[Y]? = some (.cells #[.int .i64 L0, .int .i64 x1, .int .i64 L2, .int .i64 x3, .slice xa row.length xc] 68) by rw [← hW]; exact set5_2 Y7.out _)
          have HO8 := Lib.hid (show Out Y (Y + 1) W6 W8 by rw [← hW]; exact HO7.out.setC (p := ⟨Y, 2, none⟩) (Nat.le_refl _) (Nat.lt_succ_self _) _)
          clear hW p0 p1 p2 p3 p4 pl y0 y1 y2 y3 y4 yl yz2 hL2
          have X8 := Lib.hid (HO8.out.blk X6.out (.inl HXY))
          obtain ⟨p0, p1, p2, p3, p4⟩ := cells5 X8.out
          have pl := lt_of X8.out
          obtain ⟨y0, y1, y2, y3, y4⟩ := cells5 Y8.out
          have yl := lt_of Y8.out
          have yz0 := fr_of Y8.out 0
          have yz1 := fr_of Y8.out 1
          obtain ⟨F, O, hFO⟩ : ∃ F O, repE kk dropF (x0, x1) = (F, O) := ⟨_, _, rfl⟩
          have HFO := Lib.hid hFO
          clear hFO
          go_upto_if 64 with fail
          go_cut [45] from 45 to 87 (fun i wz => i = .int .i64 j ∧ Hid (wz.heap[Y]? = some (.cells #[.int .i64 F, .int .i64 O, .int .i64 L2, .int .i64 x3, .slice xa row.length xc] 68)) ∧ Hid (Out Y (Y + 1) W6 wz))
          case first =>
            by_cases hq : x0 = (kk : Int)
            · have HE := Lib.hid (show F = -1 ∧ O = 0 by have q := HFO.out; rw [repE_at hq] at q; unfold dropF outE at q; simpa using ⟨congrArg Prod.fst q.symm, congrArg Prod.snd q.symm⟩)
              have hq1 : (x0 == (kk : Int)) = true := by simp [hq]
              clear hq
              go_wp2_with fail
              go_meet
              case rel =>
                obtain ⟨rfl, rfl⟩ := HE.out
                exact ⟨rfl, Lib.hid (set5_1 (set5_0 Y8.out _) _), Lib.hid ((HO8.out.setC (p := ⟨Y, 0, none⟩) (Nat.le_refl _) (Nat.lt_succ_self _) _).setC (p := ⟨Y, 1, none⟩) (Nat.le_refl _) (Nat.lt_succ_self _) _)⟩
            · have HE := Lib.hid (show F = L0 ∧ O = x1 by have q := HFO.out; rw [repE_not hq, behE_less, HL0.out] at q; simpa using ⟨congrArg Prod.fst q.symm, congrArg Prod.snd q.symm⟩)
              have hq1 : (x0 == (kk : Int)) = false := by simp [hq]
              clear hq
              go_wp2_with fail
              go_meet
              case rel =>
                obtain ⟨rfl, rfl⟩ := HE.out
                exact ⟨rfl, Y8, HO8⟩
          case rest =>
            rename World => W9
            obtain ⟨rfl, Y9, HO9⟩ := hcut
            clear p0 p1 p2 p3 p4 pl y0 y1 y2 y3 y4 yl yz0 yz1
            have X9 := Lib.hid (HO9.out.blk X6.out (.inl HXY))
            obtain ⟨p0, p1, p2, p3, p4⟩ := cells5 X9.out
            have pl := lt_of X9.out
            obtain ⟨y0, y1, y2, y3, y4⟩ := cells5 Y9.out
            have yl := lt_of Y9.out
            have yz2 := fr_of Y9.out 2
            have yz3 := fr_of Y9.out 3
            obtain ⟨T, I, hTI⟩ : ∃ T I, repE kk dropF (x2, x3) = (T, I) := ⟨_, _, rfl⟩
            have HTI := Lib.hid hTI
            clear hTI
            go_upto_if 70 with fail
            go_cut [45] from 45 to 87 (fun i wz => i = .int .i64 j ∧ Hid (wz.heap[Y]? = some (.cells #[.int .i64 F, .int .i64 O, .int .i64 T, .int .i64 I, .slice xa row.length xc] 68)) ∧ Hid (Out Y (Y + 1) W6 wz))
            case first =>
              by_cases hq : x2 = (kk : Int)
              · have HE := Lib.hid (show T = -1 ∧ I = 0 by have q := HTI.out; rw [repE_at hq] at q; unfold dropF outE at q; simpa using ⟨congrArg Prod.fst q.symm, congrArg Prod.snd q.symm⟩)
                have hq1 : (x2 == (kk : Int)) = true := by simp [hq]
                clear hq
                go_wp2_with fail
                go_meet
                case rel =>
                  obtain ⟨rfl, rfl⟩ := HE.out
                  exact ⟨rfl, Lib.hid (set5_3 (set5_2 Y9.out _) _), Lib.hid ((HO9.out.setC (p := ⟨Y, 2, none⟩) (Nat.le_refl _) (Nat.lt_succ_self _) _).setC (p := ⟨Y, 3, none⟩) (Nat.le_refl _) (Nat.lt_succ_self _) _)⟩
              · have HE := Lib.hid (show T = L2 ∧ I = x3 by have q := HTI.out; rw [repE_not hq, behE_less, HL2.out] at q; simpa using ⟨congrArg Prod.fst q.symm, congrArg Prod.snd q.symm⟩)
                have hq1 : (x2 == (kk : Int)) = false := by simp [hq]
                clear hq
                go_wp2_with fail
                go_meet
                case rel =>
                  obtain ⟨rfl, rfl⟩ := HE.out
                  exact ⟨rfl, Y9, HO9⟩
            case rest =>
              rename World => W10
              obtain ⟨rfl, Y10, HO10⟩ := hcut
              clear p0 p1 p2 p3 p4 pl y0 y1 y2 y3 y4 yl yz2 yz3
              obtain ⟨y0, y1, y2, y3, y4⟩ := cells5 Y10.out
              have yl := lt_of Y10.out
              have HREP := Lib.hid (show repL kk dropF dropF ⟨x0, x1, x2, x3, row⟩ = ⟨F, O, T, I, row⟩ by
                unfold repL
                show (⟨(repE kk dropF (x0, x1)).1, (repE kk dropF (x0, x1)).2, (repE kk dropF (x2, x3)).1, (repE kk dropF (x2, x3)).2, row⟩ : Lnk) = _
                rw [HFO.out, HTI.out])
              have HR10 := Lib.hid (HO10.out.below HR6.out (Nat.le_trans HC1.out.size (Nat.le_trans HS15.out.size HC6.out.size)) HWY)
              have B10 := Lib.hid (blk_in HS.out HR10.out)
              have hDE := HDE.out
              have hFv : (F = -1 ∧ O = 0) ∨ 0 ≤ F := by
                rcases hDE.1 with q | q
                · rw [show (Lnk.src ⟨x0, x1, x2, x3, row⟩) = (x0, x1) from rfl, HFO.out] at q
                  unfold outE at q
                  exact .inl (by simpa using q)
                · rw [show (Lnk.src ⟨x0, x1, x2, x3, row⟩) = (x0, x1) from rfl, HFO.out] at q
                  exact .inr q
              have hTv : (T = -1 ∧ I = 0) ∨ 0 ≤ T := by
                rcases hDE.2 with q | q
                · rw [show (Lnk.tgt ⟨x0, x1, x2, x3, row⟩) = (x2, x3) from rfl, HTI.out] at q
                  unfold outE at q
                  exact .inl (by simpa using q)
                · rw [show (Lnk.tgt ⟨x0, x1, x2, x3, row⟩) = (x2, x3) from rfl, HTI.out] at q
                  exact .inr q
              clear hDE
              by_cases hkeep : 0 ≤ F ∨ 0 ≤ T
              case neg =>
                have HSK := Lib.hid (repLs_skip HX.out (f := dropF) (g := dropF) (k := kk) (by
                  rw [HREP.out]
                  intro q
                  have := keepB_yes q
                  rcases hFv with ⟨rfl, rfl⟩ | h1
                  · rcases hTv with ⟨rfl, rfl⟩ | h2
                    · exact this ⟨rfl, rfl⟩
                    · omega
                  · omega))
                have d1 : decide (F ≥ 0) = false := decide_eq_false (by omega)
                have d2 : decide (T ≥ 0) = false := decide_eq_false (by omega)
                have d3 : decide (0 ≤ F) = false := decide_eq_false (by omega)
                have d4 : decide (0 ≤ T) = false := decide_eq_false (by omega)
                have HCL1 := Lib.hid (show c = (repLs kk dropF dropF (n.links.take (j + 1))).length by rw [HSK.out]; exact HCL.out)
                have HG1 := Lib.hid (show GrowL w5.heap.size c W10 (.slice oa c oc) (repLs kk dropF dropF (n.links.take (j + 1))) by rw [HSK.out]; exact HG.out.below HR10.out)
                have HO1 := Lib.hid (HO.out.belowHi HR10.out)
                clear hkeep hFv hTv
                go_wp2_with fail
                go_roundw
                case rel => exact ⟨j + 1, c, oa, oc, by omega, by go_num, by omega, HCL1, B10, HG1, HO1⟩
                case measure => simp [intOf]; omega
              have HKP := Lib.hid (repLs_keep HX.out (f := dropF) (g := dropF) (k := kk) (by
                rw [HREP.out]
                apply Decidable.byContradiction
                intro q
                obtain ⟨q1, q2⟩ := keepB_no q
                have h1 : F = -1 := congrArg Prod.fst q1
                have h2 : T = -1 := congrArg Prod.fst q2
                omega))
              rw [HREP.out] at HKP
              have HM := Lib.hid (HG.out.more HCL.out ⟨F, O, T, I, row⟩)
              rw [← HKP.out] at HM
              have HCL1 := Lib.hid (show c + 1 = (repLs kk dropF dropF (n.links.take (j + 1))).length by rw [HKP.out, List.length_append, ← HCL.out]; rfl)
              clear hFv hTv
              obtain ⟨us, lus, ltk, hU1, hU2⟩ := HM.out.1
              have HU0 := Lib.hid hU1
              have HU2 := Lib.hid hU2
              have HUB := Lib.hid (show ∀ u q, u ∈ us → u.ownBlock = some q → q < wr.heap.size from fun u q hu he => fam_hi HU2.out u hu q he)
              have HNE := Lib.hid (show some B ≠ (Value.slice oa c oc).ownBlock from fun e => by have := (World.ownsRow.lt HU0.out B e.symm).1; have := HBL5.out; omega)
              clear hU1 hU2 ltk
              have O10 := Lib.hid (show Own W1.heap.size W10 (.slice xa row.length xc) row from row_out O6.out HO10.out (fun q e => .inl (HOB.out q e).2))
              obtain ⟨b0, b1⟩ := cells2 B10.out
              have bl := lt_of B10.out
              have bz := fr_of B10.out 1
              have hzw : w5.heap.size ≤ W10.heap.size := Nat.le_trans hz1w HR10.out.size
              have HU10 := Lib.hid (row_below HU0.out HR10.out)
              by_cases hF0 : 0 ≤ F
              case pos =>
                have d1 : decide (F ≥ 0) = true := decide_eq_true hF0
                have d3 : decide (0 ≤ F) = true := decide_eq_true hF0
                clear hkeep
                go_wp2_with (at_builtin; refine Go.wpList_append_lies _ rfl _ _ 29 rfl w5.heap.size 68 j0 (.agg #[.int .i64 0, .int .i64 0, .int .i64 0, .int .i64 0, .slice none 0 0]) 5 56 Try.underlying29 hj hy0 hy1 hy2 rfl (by decide) (.slice oa c oc) c (cellsL ((repLs kk dropF dropF (n.links.take (j + 1))).take c) us) rfl (World.ownsRow.alloc HU10.out _) ⟨W10.heap.size, 0, none⟩ 1 1 [.int .i64 F, .int .i64 O, .int .i64 T, .int .i64 I, .slice xa row.length xc] rfl rfl (lit_cells W10 #[.int .i64 F, .int .i64 O, .int .i64 T, .int .i64 I, .slice xa row.length xc] 68) (by intro u hu; simp at hu; rcases hu with rfl | rfl | rfl | rfl | rfl <;> rfl) (by omega) (by unfold maxLen; omega) (by omega) (by simp; exact Nat.le_trans hzw (Nat.le_succ _)) (W10.heap.size + 1) (by simp) ?_; intro g gc w6 hown hgrow hor hglt; have B11 := Lib.hid (grow_box B10.out hgrow HNE.out); have HOW := Lib.hid hown; have HGR := Lib.hid hgrow; obtain ⟨d0, d1'⟩ := cells2 B11.out; have dz := fr_of B11.out 1; have dl := lt_of B11.out; clear hown hgrow hor hglt)
                go_roundw
                case rel =>
                  refine ⟨j + 1, c + 1, some ⟨g, 0, none⟩, gc, by omega, by go_num, by omega, HCL1, Lib.hid (set2_1 B11.out _), Lib.hid ?_, Lib.hid ?_⟩
                  · have S := GrowL.step (a := ⟨F, O, T, I, row⟩) (w3 := W10.alloc (.cells #[.int .i64 F, .int .i64 O, .int .i64 T, .int .i64 I, .slice xa row.length xc] 68)) lus (World.ownsRow.alloc HU10.out _) ((HU2.out.below HR10.out).below ((Below.refl _ _).al _)) (O10.out.below ((Below.refl _ _).al _)) (fun u q hu he => Nat.lt_of_lt_of_le (HUB.out u q hu he) HC1.out.size) (Nat.le_trans hz1w HC1.out.size) HM.out.2 HOW.out HGR.out
                    exact S.out ((Out.refl B (B + 1) w6).setC (p := ⟨B, 1, none⟩) (Nat.le_refl _) (Nat.lt_succ_self _) _) HBL5.out
                  · exact (((HO.out.belowHi HR10.out).al _).grownHi HGR.out (fun q e => (World.ownsRow.lt HU10.out q e).1)).setC (p := ⟨B, 1, none⟩) (Nat.le_refl _) (Nat.lt_succ_self _) _
                case measure => simp [intOf]; omega
              have hT0 : 0 ≤ T := by omega
              have d1 : decide (F ≥ 0) = false := decide_eq_false (by omega)
              have d3 : decide (0 ≤ F) = false := decide_eq_false (by omega)
              have d2 : decide (T ≥ 0) = true := decide_eq_true hT0
              have d4 : decide (0 ≤ T) = true := decide_eq_true hT0
              clear hkeep hF0
              go_wp2_with (at_builtin; refine Go.wpList_append_lies _ rfl _ _ 29 rfl w5.heap.size 68 j0 (.agg #[.int .i64 0, .int .i64 0, .int .i64 0, .int .i64 0, .slice none 0 0]) 5 56 Try.underlying29 hj hy0 hy1 hy2 rfl (by decide) (.slice oa c oc) c (cellsL ((repLs kk dropF dropF (n.links.take (j + 1))).take c) us) rfl (World.ownsRow.alloc HU10.out _) ⟨W10.heap.size, 0, none⟩ 1 1 [.int .i64 F, .int .i64 O, .int .i64 T, .int .i64 I, .slice xa row.length xc] rfl rfl (lit_cells W10 #[.int .i64 F, .int .i64 O, .int .i64 T, .int .i64 I, .slice xa row.length xc] 68) (by intro u hu; simp at hu; rcases hu with rfl | rfl | rfl | rfl | rfl <;> rfl) (by omega) (by unfold maxLen; omega) (by omega) (by simp; exact Nat.le_trans hzw (Nat.le_succ _)) (W10.heap.size + 1) (by simp) ?_; intro g gc w6 hown hgrow hor hglt; have B11 := Lib.hid (grow_box B10.out hgrow HNE.out); have HOW := Lib.hid hown; have HGR := Lib.hid hgrow; obtain ⟨d0, d1'⟩ := cells2 B11.out; have dz := fr_of B11.out 1; have dl := lt_of B11.out; clear hown hgrow hor hglt)
              go_roundw
              case rel =>
                refine ⟨j + 1, c + 1, some ⟨g, 0, none⟩, gc, by omega, by go_num, by omega, HCL1, Lib.hid (set2_1 B11.out _), Lib.hid ?_, Lib.hid ?_⟩
                · have S := GrowL.step (a := ⟨F, O, T, I, row⟩) (w3 := W10.alloc (.cells #[.int .i64 F, .int .i64 O, .int .i64 T, .int .i64 I, .slice xa row.length xc] 68)) lus (World.ownsRow.alloc HU10.out _) ((HU2.out.below HR10.out).below ((Below.refl _ _).al _)) (O10.out.below ((Below.refl _ _).al _)) (fun u q hu he => Nat.lt_of_lt_of_le (HUB.out u q hu he) HC1.out.size) (Nat.le_trans hz1w HC1.out.size) HM.out.2 HOW.out HGR.out
                  exact S.out ((Out.refl B (B + 1) w6).setC (p := ⟨B, 1, none⟩) (Nat.le_refl _) (Nat.lt_succ_self _) _) HBL5.out
                · exact (((HO.out.belowHi HR10.out).al _).grownHi HGR.out (fun q e => (World.ownsRow.lt HU10.out q e).1)).setC (p := ⟨B, 1, none⟩) (Nat.le_refl _) (Nat.lt_succ_self _) _
              case measure => simp [intOf]; omega
        obtain rfl : ll = j := by omega
        have htk : n.links.take ll = n.links := List.take_of_length_le (by rw [← NL.out]; omega)
        rw [htk] at HG HCL
        clear htk
        have HLR := Lib.hid (HG.out.done HCL.out.symm)
        have HPR2 := Lib.hid (HPR.out.outB HS5.out (by decide) (by decide) HO.out)
        have HOKD := Lib.hid (okN_drop (k := kk) HOK.out)
        have JW := Lib.hid (HO.out.blk JR.out (.inl (by have := HB0.out; omega)))
        have HBS := Lib.hid HS.out
        have HNR := Lib.hid (show NetR w4.heap.size wr.heap.size wr (.agg #[.slice pA mP pC, .slice oa c oc]) (repN n kk dropF dropF) from ⟨_, _, rfl, HPR2.out.mono (Nat.le_refl _) HO.out.size, HLR.out.mono HO45.out.size (Nat.le_refl _), wf_okN HOKD.out⟩)
        have CF0 := fun (W : World) (hw : Below wr.heap.size wr W) => sisnet_any (.agg #[.slice pA mP pC, .slice oa c oc]) (repN n kk dropF dropF) W (HNR.out.below hw).v
        rw [HOKD.out] at CF0
        have CF := Lib.hid CF0
        clear CF0 HG HCL HPR HPR2 HLR hcj
        obtain ⟨s0, s1⟩ := cells2 HBS.out
        have sl := lt_of HBS.out
        obtain ⟨r0, r1⟩ := cells2 JW.out
        have rl := lt_of JW.out
        have rz0 := fr_of JW.out 0
        have rz1 := fr_of JW.out 1
        have hne1 : ¬ B = w.heap.size + 1 := by have := HB0.out; omega
        have hne2 : ¬ w.heap.size + 1 = B := by have := HB0.out; omega
        go_upto_region 25 with fail
        go_region_held3 (fun w' => w'.cell? ⟨B, 0, none⟩ = some (.slice pA mP pC) ∧ w'.cell? ⟨B, 1, none⟩ = some (.slice oa c oc)) (go_keep) (first | (go_at_call 45; refine (CF.out _ (by first | with_reducible exact Below.refl _ _ | with_reducible exact (Below.refl _ _).drew)).mono ?_; rintro e W9 ⟨rfl, hb9⟩; have HC9 := Lib.hid (show Below wr.heap.size wr W9 by first | with_reducible exact hb9 | with_reducible exact cr_d hb9); have B9 := Lib.hid (blk_in HBS.out HC9.out); have J9 := Lib.hid (blk_in JW.out HC9.out); obtain ⟨t0, t1⟩ := cells2 B9.out; have tl := lt_of B9.out; obtain ⟨q0, q1⟩ := cells2 J9.out; have ql := lt_of J9.out; have qz0 := fr_of J9.out 0; have qz1 := fr_of J9.out 1; clear hb9))
        all_goals (
          go_wp2_with fail
          refine bodyPost_ret (v := .tuple #[.agg #[.slice pA mP pC, .slice oa c oc], .bool true]) (by simp [results, Try.results30, go_sem, q0, q1]) rfl ⟨_, rfl, ?_, ?_⟩
          · have q := set2_all J9.out (.slice pA mP pC) (.slice oa c oc)
            first
            | exact ((HNR.out.below HC9.out).out q.2 (.inr (by have := HB0.out; have := HBL.out; omega))).mono (by have := HB0.out; have := HBL.out; omega) (Nat.le_trans HC9.out.size q.2.size)
            | trace_state
          · have q := set2_all J9.out (.slice pA mP pC) (.slice oa c oc)
            first
            | exact q.2.below (HBW.out.trans (HC9.out.mono HBW.out.size)) (Nat.le_trans HBW.out.size HC9.out.size) (by omega)
            | trace_state)
end Go.Proofs.Ytkeoefbkeommhaa
