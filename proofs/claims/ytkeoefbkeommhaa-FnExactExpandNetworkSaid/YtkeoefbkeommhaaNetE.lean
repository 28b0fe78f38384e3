/-
  The model's copy of a network. No statement of the seat is proved here.
-/
import Derived.Test.YtkeoefbkeommhaaNetD
namespace Go.Proofs.Ytkeoefbkeommhaa
open Go.RowKit

theorem set2_0 {w : World} {g T : Nat} {u0 u1 : Value} (h : w.heap[g]? = some (.cells #[u0, u1] T)) (v : Value) : (w.setCell ⟨g, 0, none⟩ v).heap[g]? = some (.cells #[v, u1] T) := by
  rw [heap_setCell_same w g 0 #[u0, u1] T v h]; rfl
theorem set2_1 {w : World} {g T : Nat} {u0 u1 : Value} (h : w.heap[g]? = some (.cells #[u0, u1] T)) (v : Value) : (w.setCell ⟨g, 1, none⟩ v).heap[g]? = some (.cells #[u0, v] T) := by
  rw [heap_setCell_same w g 1 #[u0, u1] T v h]; rfl
theorem set2_all {w : World} {g T : Nat} {u0 u1 : Value} (h : w.heap[g]? = some (.cells #[u0, u1] T)) (a b : Value) :
    ((w.setCell ⟨g, 0, none⟩ a).setCell ⟨g, 1, none⟩ b).heap[g]? = some (.cells #[a, b] T) ∧ Out g (g + 1) w ((w.setCell ⟨g, 0, none⟩ a).setCell ⟨g, 1, none⟩ b) :=
  ⟨set2_1 (set2_0 h a) b, ((Out.refl g (g + 1) w).setC (p := ⟨g, 0, none⟩) (Nat.le_refl _) (by simp) _).setC (p := ⟨g, 1, none⟩) (Nat.le_refl _) (by simp) _⟩
/-- A network of bounded size. -/
def SmallN (n : Net) : Prop := n.progs.length ≤ 100 ∧ (∀ p ∈ n.progs, p.code.length ≤ 1000) ∧ n.links.length ≤ 100 ∧ ∀ l ∈ n.links, l.tok.length ≤ 1000
theorem ok_small {n : Net} (h : okN n = true) : SmallN n := by
  have hl := okN_len h
  refine ⟨by omega, fun p hp => ?_, by omega, fun l hl => by have := isS_len (tok_isS h hl); omega⟩
  have := List.all_eq_true.1 hl.2.2 p hp
  have := (okP_parts this).1
  omega

set_option maxRecDepth 100000 in
set_option maxHeartbeats 16000000 in
theorem sl3copy_any (v : Value) (n : Net) (w : World) (h : NetV w v n) (hsm : SmallN n) :
    Calls Try.prog 47 #[v] w fun e w' => ∃ r, e = .returned r ∧ NetR w.heap.size w'.heap.size w' r n ∧ Below w.heap.size w w' := by
  have HWF := Lib.hid h.wf
  have HNB := Lib.hid hsm
  obtain ⟨pv, lv, rfl, hp, hl⟩ := h
  have LP := hp.len
  have LL := hl.len
  have HP := Lib.hid hp
  have HL := Lib.hid hl
  obtain ⟨la, lcap, rfl⟩ := hl.shape
  obtain ⟨pa, pcap, rfl⟩ := hp.shape
  have hm100 := hsm.1
  have hl100 := hsm.2.2.1
  obtain ⟨m, hm⟩ : ∃ m, m = n.progs.length := ⟨_, rfl⟩
  obtain ⟨ll, hll⟩ : ∃ m, m = n.links.length := ⟨_, rfl⟩
  rw [← hm, ← hll]
  rw [← hm] at HP LP hm100
  rw [← hll] at HL LL hl100
  have NP := Lib.hid hm
  have NL := Lib.hid hll
  clear hp hl hm hll hsm
  have hb := Lib.hid (((Below.refl w.heap.size w).al (.cells #[.slice pa m pcap, .slice la ll lcap] 31)).al (.cells #[.slice none 0 0, .slice none 0 0] 31))
  have hH := Lib.hid (hp21 w (.cells #[.slice pa m pcap, .slice la ll lcap] 31) (.cells #[.slice none 0 0, .slice none 0 0] 31))
  have hH1 := Lib.hid (hp2 w (.cells #[.slice pa m pcap, .slice la ll lcap] 31) (.cells #[.slice none 0 0, .slice none 0 0] 31))
  obtain ⟨i0, hi, hz0, hz1, hz2⟩ := infoP_parts
  obtain ⟨j0, hj, hy0, hy1, hy2⟩ := infoL_parts
  go_enter Try.func47, Try.ntmps47
  go_upto_region 1 with fail
  generalize hW : (w.alloc (.cells #[.slice pa m pcap, .slice la ll lcap] 31)).alloc (.cells #[.slice none 0 0, .slice none 0 0] 31) = w2 at hb hH hH1 ⊢
  have HW2 := Lib.hid (show w.heap.size + 2 = w2.heap.size by rw [← hW]; simp)
  clear hW
  obtain ⟨k0, k1⟩ := cells2 hH.out
  have gl := lt_of hH.out
  have hne : ¬ w.heap.size = w2.heap.size := by omega
  go_wp2_with fail
  generalize hW : w2.alloc (.cells #[.slice none 0 0, .slice none 0 0] 31) = w3
  have HC3 := Lib.hid (show Below w2.heap.size w2 w3 by rw [← hW]; exact (Below.refl _ _).al _)
  obtain ⟨B, hB⟩ : ∃ B, B = w2.heap.size := ⟨_, rfl⟩
  have HS3 := Lib.hid (show w3.heap[B]? = some (.cells #[.slice none 0 0, .slice none 0 0] 31) by rw [← hW, hB]; exact hp1 _ _)
  rw [← hB]
  have HB0 := Lib.hid (show w.heap.size + 2 = B by rw [hB]; exact HW2.out)
  clear hW hB hne
  have HBw3 := Lib.hid (hb.out.trans (HC3.out.mono hb.out.size))
  have G3 := Lib.hid (blk_in hH.out HC3.out)
  have J3 := Lib.hid (blk_in hH1.out HC3.out)
  have HBLw3 := Lib.hid (lt_of HS3.out)
  clear k0 k1 gl
  go_loopw [12] (fun i wr => ∃ (k : Nat) (oa : Option Addr) (oc : Nat), k ≤ m ∧ i = .int .i64 k ∧ Hid (wr.heap[B]? = some (.cells #[.slice oa k oc, .slice none 0 0] 31)) ∧ Hid (GrowP w3.heap.size k wr (.slice oa k oc) n.progs) ∧ Hid (Out B (B + 1) w3 wr)) (fun i _ => m - (intOf i).toNat)
  case atStart => exact ⟨0, none, 0, Nat.zero_le _, rfl, HS3, Lib.hid (GrowP.nil _ _ _), Lib.hid (Out.refl _ _ _)⟩
  case round =>
    obtain ⟨k, oa, oc, hk, rfl, HS, HG, HO⟩ := hrel
    have HBW := Lib.hid (HO.out.below HBw3.out HBw3.out.size (by have := HB0.out; omega))
    by_cases hlt : k < m
    case pos =>
      obtain ⟨x, hx⟩ : ∃ x, (n.progs)[k]? = some x := ⟨_, List.getElem?_eq_getElem (by rw [← NP.out]; exact hlt)⟩
      obtain ⟨gb, go, pcv, rfl, hgb, e0, e1, e2, es⟩ := (HP.out.below HBW.out).atb hx
      have HX := Lib.hid hx
      have HLB := Lib.hid (HNB.out.2.1 x (List.mem_of_getElem? hx))
      clear hx
      have ES := Lib.hid es
      obtain ⟨x0, x1, row⟩ := x
      simp only [] at e0 e1 e2 ES HLB
      obtain ⟨ua, uc, rfl⟩ := es.shape
      have CA0 := fun (W : World) (hw : Below wr.heap.size wr W) => sl3prog_any x0 x1 (.slice ua row.length uc) row W (ES.out.below hw) (by have := HLB.out; omega)
      obtain ⟨ul, hul⟩ : ∃ q, q = row.length := ⟨_, rfl⟩
      rw [← hul] at e2 CA0
      clear hul es ES
      obtain ⟨us, lus, ltk, hU1, hU2⟩ := HG.out
      have HU0 := Lib.hid hU1
      have HU2 := Lib.hid hU2
      have HUB := Lib.hid (show ∀ u q, u ∈ us → u.ownBlock = some q → q < wr.heap.size from fun u q hu he => fam_hiI hU2 u hu q he)
      have HNE := Lib.hid (show some B ≠ (Value.slice oa k oc).ownBlock from fun e => by have := (World.ownsRow.lt HU0.out B e.symm).1; have := HBLw3.out; omega)
      clear hU1 hU2 ltk
      have hz1w : w3.heap.size ≤ wr.heap.size := HO.out.size
      go_upto_region 5 with fail
      generalize hW : wr.alloc (.cells #[.int .i64 x0, .int .i64 x1, .slice ua ul uc] 79) = W1
      have HC1 := Lib.hid (show Below wr.heap.size wr W1 by rw [← hW]; exact (Below.refl _ _).al _)
      obtain ⟨p0, p1, p2⟩ := cells3 (show W1.heap[wr.heap.size]? = _ by rw [← hW]; exact hp1 _ _)
      have pl := lt_of (show W1.heap[wr.heap.size]? = _ by rw [← hW]; exact hp1 _ _)
      clear hW
      have B1 := Lib.hid (blk_in HS.out HC1.out)
      have HU1 := Lib.hid (row_below HU0.out HC1.out)
      obtain ⟨b0, b1⟩ := cells2 B1.out
      have bl := lt_of B1.out
      have bz := fr_of B1.out 0
      have hz1' : w3.heap.size ≤ W1.heap.size := Nat.le_trans hz1w HC1.out.size
      have CA := Lib.hid (fun (W : World) (hw : Below W1.heap.size W1 W) => CA0 W (HC1.out.trans (hw.mono HC1.out.size)))
      clear CA0
      refine wp_open' ?_
      intro K9 hK9
      go_cut [12] from 12 to 23 (fun i wz => ∃ (oa' : Option Addr) (oc' : Nat), i = .int .i64 k ∧ Hid (wz.heap[B]? = some (.cells #[.slice oa' (k + 1) oc', .slice none 0 0] 31)) ∧ Hid (GrowP w3.heap.size (k + 1) wz (.slice oa' (k + 1) oc') n.progs) ∧ Hid (Out B (B + 1) w3 wz))
      case first =>
        go_region_law (first | (refine Go.step_append_lies _ rfl (.tmp 17) (.tmp 20) 28 rfl w3.heap.size 79 i0 (.agg #[.int .i64 0, .int .i64 0, .slice none 0 0]) 3 40 Try.underlying28 hi hz0 hz1 hz2 rfl (by decide) (.slice oa k oc) k (cellsP ((n.progs).take k) us) rfl (World.ownsRow.alloc (row_below HU1.out hs5.out) _) ⟨W5.heap.size, 0, none⟩ 1 1 [.int .i64 x0, .int .i64 x1, .slice xa row.length xc] rfl rfl (lit_cells W5 #[.int .i64 x0, .int .i64 x1, .slice xa row.length xc] 79) (by intro u hu; simp at hu; rcases hu with rfl | rfl | rfl <;> rfl) (by omega) (by unfold maxLen; omega) (by omega) (by have := hz5; simp; omega) (W5.heap.size + 1) (by simp) ?_; intro g gc w6 hown hgrow hor hglt; have BB := grow_box B5.out hgrow HNE.out; obtain ⟨d0, d1⟩ := cells2 BB; have dz := fr_of BB 0; have dl := lt_of BB; have HOW := Lib.hid hown; have HGR := Lib.hid hgrow; have HB6 := Lib.hid BB; clear hown hgrow hor hglt BB) | (go_simp; go_at_call 60; refine (CA.out _ (by first | with_reducible exact Below.refl _ _ | with_reducible exact (Below.refl _ _).drew)).mono ?_; rintro e W5 ⟨c5, rfl, o5, hb5⟩; have hs5 := Lib.hid (show Below W1.heap.size W1 W5 by first | with_reducible exact hb5 | with_reducible exact cr_d hb5); have O5 := Lib.hid (OwnI.mono (lo' := W1.heap.size) o5 (by first | exact Nat.le_refl _ | simp)); have hz5 : w3.heap.size ≤ W5.heap.size := Nat.le_trans hz1' hs5.out.size; have B5 := Lib.hid (blk_in B1.out hs5.out); obtain ⟨y0, y1⟩ := cells2 B5.out; have yz := fr_of B5.out 0; have yl := lt_of B5.out; obtain ⟨xa, xc, rfl⟩ := O5.out.shape; clear o5 hb5))
        all_goals (
          go_wp2_with fail
          go_meet
          case rel =>
            refine ⟨some ⟨g, 0, none⟩, gc, rfl, Lib.hid (set2_0 HB6.out _), Lib.hid ?_, Lib.hid ?_⟩
            · have F5 := HU2.out.below (HC1.out.trans (hs5.out.mono HC1.out.size))
              have S := GrowP.step (a := ⟨x0, x1, row⟩) (w3 := W5.alloc (.cells #[.int .i64 x0, .int .i64 x1, .slice xa row.length xc] 79)) lus (World.ownsRow.alloc (row_below HU1.out hs5.out) _) (F5.below ((Below.refl _ _).al _)) (O5.out.below ((Below.refl _ _).al _)) (fun u q hu he => Nat.lt_of_lt_of_le (HUB.out u q hu he) HC1.out.size) hz1' HX.out HOW.out HGR.out
              exact S.out ((Out.refl B (B + 1) w6).setC (p := ⟨B, 0, none⟩) (Nat.le_refl _) (Nat.lt_succ_self _) _) HBLw3.out
            · exact ((((HO.out.belowHi HC1.out).belowHi hs5.out).al _).grownHi HGR.out (fun q e => (World.ownsRow.lt HU1.out q e).1)).setC (p := ⟨B, 0, none⟩) (Nat.le_refl _) (Nat.lt_succ_self _) _)
      case rest =>
        obtain ⟨oa', oc', rfl, HS', HG', HO'⟩ := hcut
        refine hK9 _ _ ?_
        go_wp2_with fail
        go_roundw
        case rel => exact ⟨k + 1, oa', oc', by omega, by go_num, HS', HG', HO'⟩
        case measure => simp [intOf]; omega
    obtain rfl : m = k := by omega
    have HPR := Lib.hid (HG.out.done NP.out.symm)
    have GR := Lib.hid (HO.out.blk G3.out (.inl (by have := HB0.out; omega)))
    have JR := Lib.hid (HO.out.blk J3.out (.inl (by have := HB0.out; omega)))
    obtain ⟨w5, hw5⟩ : ∃ W, W = wr := ⟨_, rfl⟩
    subst hw5
    have HS5 := Lib.hid HS.out
    have HBw5 := Lib.hid HBW.out
    have HBLw5 := Lib.hid (lt_of HS.out)
    have HO35 := Lib.hid HO.out
    obtain ⟨pA, hpA⟩ : ∃ z, z = oa := ⟨_, rfl⟩
    subst hpA
    obtain ⟨pC, hpC⟩ : ∃ z, z = oc := ⟨_, rfl⟩
    subst hpC
    clear HS HG HO HBW
    obtain ⟨k0, k1⟩ := cells2 GR.out
    have gl := lt_of GR.out
    go_wp2_with fail
    clear k0 k1 gl
    go_loopw [27] (fun i wr => ∃ (k : Nat) (oa : Option Addr) (oc : Nat), k ≤ ll ∧ i = .int .i64 k ∧ Hid (wr.heap[B]? = some (.cells #[.slice pA m pC, .slice oa k oc] 31)) ∧ Hid (GrowL w5.heap.size k wr (.slice oa k oc) n.links) ∧ Hid (Out B (B + 1) w5 wr)) (fun i _ => ll - (intOf i).toNat)
    case atStart => exact ⟨0, none, 0, Nat.zero_le _, rfl, HS5, Lib.hid (GrowL.nil _ _ _), Lib.hid (Out.refl _ _ _)⟩
    case round =>
      obtain ⟨k, oa, oc, hk, rfl, HS, HG, HO⟩ := hrel
      have HBW := Lib.hid (HO.out.below HBw5.out HBw5.out.size (by have := HB0.out; omega))
      by_cases hlt : k < ll
      case pos =>
        obtain ⟨x, hx⟩ : ∃ x, (n.links)[k]? = some x := ⟨_, List.getElem?_eq_getElem (by rw [← NL.out]; exact hlt)⟩
        obtain ⟨gb, go, pcv, rfl, hgb, e0, e1, e2, e3, e4, es⟩ := (HL.out.below HBW.out).atb hx
        have HX := Lib.hid hx
        have HLB := Lib.hid (HNB.out.2.2.2 x (List.mem_of_getElem? hx))
        clear hx
        have ES := Lib.hid es
        obtain ⟨x0, x1, x2, x3, row⟩ := x
        simp only [] at e0 e1 e2 e3 e4 ES HLB
        obtain ⟨ua, uc, rfl⟩ := es.shape
        have CA0 := fun (W : World) (hw : Below wr.heap.size wr W) => sl3link_any x0 x1 x2 x3 (.slice ua row.length uc) row W (ES.out.below hw) (by have := HLB.out; omega)
        obtain ⟨ul, hul⟩ : ∃ q, q = row.length := ⟨_, rfl⟩
        rw [← hul] at e4 CA0
        clear hul es ES
        obtain ⟨us, lus, ltk, hU1, hU2⟩ := HG.out
        have HU0 := Lib.hid hU1
        have HU2 := Lib.hid hU2
        have HUB := Lib.hid (show ∀ u q, u ∈ us → u.ownBlock = some q → q < wr.heap.size from fun u q hu he => fam_hi hU2 u hu q he)
        have HNE := Lib.hid (show some B ≠ (Value.slice oa k oc).ownBlock from fun e => by have := (World.ownsRow.lt HU0.out B e.symm).1; have := HBLw5.out; omega)
        clear hU1 hU2 ltk
        have hz1w : w5.heap.size ≤ wr.heap.size := HO.out.size
        go_upto_region 10 with fail
        generalize hW : wr.alloc (.cells #[.int .i64 x0, .int .i64 x1, .int .i64 x2, .int .i64 x3, .slice ua ul uc] 68) = W1
        have HC1 := Lib.hid (show Below wr.heap.size wr W1 by rw [← hW]; exact (Below.refl _ _).al _)
        obtain ⟨p0, p1, p2, p3, p4⟩ := cells5 (show W1.heap[wr.heap.size]? = _ by rw [← hW]; exact hp1 _ _)
        have pl := lt_of (show W1.heap[wr.heap.size]? = _ by rw [← hW]; exact hp1 _ _)
        clear hW
        have B1 := Lib.hid (blk_in HS.out HC1.out)
        have HU1 := Lib.hid (row_below HU0.out HC1.out)
        obtain ⟨b0, b1⟩ := cells2 B1.out
        have bl := lt_of B1.out
        have bz := fr_of B1.out 1
        have hz1' : w5.heap.size ≤ W1.heap.size := Nat.le_trans hz1w HC1.out.size
        have CA := Lib.hid (fun (W : World) (hw : Below W1.heap.size W1 W) => CA0 W (HC1.out.trans (hw.mono HC1.out.size)))
        clear CA0
        refine wp_open' ?_
        intro K9 hK9
        go_cut [27] from 27 to 38 (fun i wz => ∃ (oa' : Option Addr) (oc' : Nat), i = .int .i64 k ∧ Hid (wz.heap[B]? = some (.cells #[.slice pA m pC, .slice oa' (k + 1) oc'] 31)) ∧ Hid (GrowL w5.heap.size (k + 1) wz (.slice oa' (k + 1) oc') n.links) ∧ Hid (Out B (B + 1) w5 wz))
        case first =>
          go_region_law (first | (refine Go.step_append_lies _ rfl (.tmp 32) (.tmp 35) 29 rfl w5.heap.size 68 j0 (.agg #[.int .i64 0, .int .i64 0, .int .i64 0, .int .i64 0, .slice none 0 0]) 5 56 Try.underlying29 hj hy0 hy1 hy2 rfl (by decide) (.slice oa k oc) k (cellsL ((n.links).take k) us) rfl (World.ownsRow.alloc (row_below HU1.out hs5.out) _) ⟨W5.heap.size, 0, none⟩ 1 1 [.int .i64 x0, .int .i64 x1, .int .i64 x2, .int .i64 x3, .slice xa row.length xc] rfl rfl (lit_cells W5 #[.int .i64 x0, .int .i64 x1, .int .i64 x2, .int .i64 x3, .slice xa row.length xc] 68) (by intro u hu; simp at hu; rcases hu with rfl | rfl | rfl | rfl | rfl <;> rfl) (by omega) (by unfold maxLen; omega) (by omega) (by have := hz5; simp; omega) (W5.heap.size + 1) (by simp) ?_; intro g gc w6 hown hgrow hor hglt; have BB := grow_box B5.out hgrow HNE.out; obtain ⟨d0, d1⟩ := cells2 BB; have dz := fr_of BB 1; have dl := lt_of BB; have HOW := Lib.hid hown; have HGR := Lib.hid hgrow; have HB6 := Lib.hid BB; clear hown hgrow hor hglt BB) | (go_simp; go_at_call 61; refine (CA.out _ (by first | with_reducible exact Below.refl _ _ | with_reducible exact (Below.refl _ _).drew)).mono ?_; rintro e W5 ⟨c5, rfl, o5, hb5⟩; have hs5 := Lib.hid (show Below W1.heap.size W1 W5 by first | with_reducible exact hb5 | with_reducible exact cr_d hb5); have O5 := Lib.hid (Own.mono (lo' := W1.heap.size) o5 (by first | exact Nat.le_refl _ | simp)); have hz5 : w5.heap.size ≤ W5.heap.size := Nat.le_trans hz1' hs5.out.size; have B5 := Lib.hid (blk_in B1.out hs5.out); obtain ⟨y0, y1⟩ := cells2 B5.out; have yz := fr_of B5.out 1; have yl := lt_of B5.out; obtain ⟨xa, xc, rfl⟩ := O5.out.shape; clear o5 hb5))
          all_goals (
            go_wp2_with fail
            go_meet
            case rel =>
              refine ⟨some ⟨g, 0, none⟩, gc, rfl, Lib.hid (set2_1 HB6.out _), Lib.hid ?_, Lib.hid ?_⟩
              · have F5 := HU2.out.below (HC1.out.trans (hs5.out.mono HC1.out.size))
                have S := GrowL.step (a := ⟨x0, x1, x2, x3, row⟩) (w3 := W5.alloc (.cells #[.int .i64 x0, .int .i64 x1, .int .i64 x2, .int .i64 x3, .slice xa row.length xc] 68)) lus (World.ownsRow.alloc (row_below HU1.out hs5.out) _) (F5.below ((Below.refl _ _).al _)) (O5.out.below ((Below.refl _ _).al _)) (fun u q hu he => Nat.lt_of_lt_of_le (HUB.out u q hu he) HC1.out.size) hz1' HX.out HOW.out HGR.out
                exact S.out ((Out.refl B (B + 1) w6).setC (p := ⟨B, 1, none⟩) (Nat.le_refl _) (Nat.lt_succ_self _) _) HBLw5.out
              · exact ((((HO.out.belowHi HC1.out).belowHi hs5.out).al _).grownHi HGR.out (fun q e => (World.ownsRow.lt HU1.out q e).1)).setC (p := ⟨B, 1, none⟩) (Nat.le_refl _) (Nat.lt_succ_self _) _)
        case rest =>
          obtain ⟨oa', oc', rfl, HS', HG', HO'⟩ := hcut
          refine hK9 _ _ ?_
          go_wp2_with fail
          go_roundw
          case rel => exact ⟨k + 1, oa', oc', by omega, by go_num, HS', HG', HO'⟩
          case measure => simp [intOf]; omega
      obtain rfl : ll = k := by omega
      have HLR := Lib.hid (HG.out.done NL.out.symm)
      have HPR2 := Lib.hid (HPR.out.outB HS5.out (by decide) (by decide) HO.out)
      have JW := Lib.hid (HO.out.blk JR.out (.inl (by have := HB0.out; omega)))
      obtain ⟨s0, s1⟩ := cells2 HS.out
      have sl := lt_of HS.out
      obtain ⟨r0, r1⟩ := cells2 JW.out
      have rl := lt_of JW.out
      have rz0 := fr_of JW.out 0
      have rz1 := fr_of JW.out 1
      have q := set2_all JW.out (.slice pA m pC) (.slice oa ll oc)
      have Q2 := Lib.hid q.2
      clear q
      go_wp2_with fail
      refine bodyPost_ret (v := .agg #[.slice pA m pC, .slice oa ll oc]) (by simp [results, Try.results47, go_sem, r0, r1]) rfl ⟨_, rfl, ?_, ?_⟩
      · have z : NetR w3.heap.size wr.heap.size wr (.agg #[.slice pA m pC, .slice oa ll oc]) n := ⟨_, _, rfl, HPR2.out.mono (Nat.le_refl _) HO.out.size, HLR.out.mono HO35.out.size (Nat.le_refl _), HWF.out⟩
        exact (z.out Q2.out (.inr (by have := HC3.out.size; have := HW2.out; omega))).mono (by have := HC3.out.size; have := HW2.out; omega) Q2.out.size
      · exact Q2.out.below HBW.out HBW.out.size (by omega)
end Go.Proofs.Ytkeoefbkeommhaa
