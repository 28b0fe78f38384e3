/-
  What the program's replaced leaves: the process grows. No statement of the seat is proved here.
-/
import Derived.Test.YtkeoefbkeommhaaRcw
import Derived.Test.YtkeoefbkeommhaaNhj
namespace Go.Proofs.Ytkeoefbkeommhaa
open Go.RowKit

set_option maxRecDepth 100000 in
set_option maxHeartbeats 16000000 in
theorem ireplG_any (PL : Value) (f g : Int → End) (v : Value) (n : Net) (kk : Nat) (w : World) (h : NetV w v n) (hsm : SmallN n) (hkm : kk < n.progs.length) (hend : ∀ l ∈ n.links, (-1000000 ≤ l.frm ∧ l.frm ≤ 1000000) ∧ (-1000000 ≤ l.to ∧ l.to ≤ 1000000))
    (hmS : ∀ w, (method (205 + 101) 89 PL "loop.example/g03224/impl.sourceFor").run Try.prog w = .ok (185, PL) w) (hmT : ∀ w, (method (205 + 101) 89 PL "loop.example/g03224/impl.targetFor").run Try.prog w = .ok (186, PL) w)
    (hcS : ∀ (W : World) (l : Lnk), Below w.heap.size w W → l ∈ n.links → l.frm = (kk : Int) → Calls Try.prog 185 #[PL, .int .i64 l.out] W fun e w' => e = .returned (.agg #[.int .i64 (f l.out).1, .int .i64 (f l.out).2]) ∧ Below W.heap.size W w')
    (hcT : ∀ (W : World) (l : Lnk), Below w.heap.size w W → l ∈ n.links → l.to = (kk : Int) → Calls Try.prog 186 #[PL, .int .i64 l.inn] W fun e w' => e = .returned (.agg #[.int .i64 (g l.inn).1, .int .i64 (g l.inn).2]) ∧ Below W.heap.size W w') :
    Calls Try.prog 74 #[v, .int .i64 (kk : Int), .iface 89 PL] w fun e w' => ∃ pv lv, e = .returned (.agg #[pv, lv]) ∧ RowP w.heap.size w w' pv (n.progs.eraseIdx kk) ∧ RowL w.heap.size w w' lv (repLs kk f g n.links) ∧ Below w.heap.size w w' := by
  simp only [Nat.reduceAdd] at hmS hmT
  have HCS := Lib.hid hcS
  have HCT := Lib.hid hcT
  have HEN := Lib.hid hend
  have HSM := Lib.hid hsm
  clear hcS hcT hend
  obtain ⟨pv, lv, rfl, hp, hl⟩ := h
  have LP := hp.len
  have LL := hl.len
  have HL := Lib.hid hl
  have HWF := Lib.hid hl.wf
  obtain ⟨la, lcap, rfl⟩ := hl.shape
  obtain ⟨x9, hx9⟩ : ∃ x, n.progs[kk]? = some x := ⟨_, List.getElem?_eq_getElem hkm⟩
  obtain ⟨pa, pcap, rfl⟩ := hp.shape
  obtain ⟨gb, go, pcv, rfl, hgb, _, _, _, _⟩ := hp.atb hx9
  have HP := Lib.hid hp
  have hcap : n.progs.length ≤ pcap := by
    obtain ⟨a, c, hv, h1, _⟩ := hp
    simp only [Value.slice.injEq] at hv
    obtain ⟨_, _, rfl⟩ := hv
    exact h1
  have hcapm : pcap ≤ 9223372036854775807 := by
    obtain ⟨a, c, hv, _, h2, _⟩ := hp
    simp only [Value.slice.injEq] at hv
    obtain ⟨_, _, rfl⟩ := hv
    unfold maxLen at h2
    omega
  have hm100 := hsm.1
  have hl100 := hsm.2.2.1
  obtain ⟨m, hm⟩ : ∃ m, m = n.progs.length := ⟨_, rfl⟩
  obtain ⟨ll, hll⟩ : ∃ m, m = n.links.length := ⟨_, rfl⟩
  rw [← hm, ← hll]
  rw [← hm] at HP hkm hm100 LP hcap
  rw [← hll] at HL LL hl100
  have NP := Lib.hid hm
  have NL := Lib.hid hll
  clear hp hl hm hll hsm hx9
  obtain ⟨j0, hj, hy0, hy1, hy2⟩ := infoL_parts
  have hb := Lib.hid (((Below.refl w.heap.size w).al (.cells #[.slice (some ⟨gb, go, none⟩) m pcap, .slice la ll lcap] 31)).al (.cells #[.slice none 0 0, .slice none 0 0] 31))
  have hH := Lib.hid (hp21 w (.cells #[.slice (some ⟨gb, go, none⟩) m pcap, .slice la ll lcap] 31) (.cells #[.slice none 0 0, .slice none 0 0] 31))
  have hH1 := Lib.hid (hp2 w (.cells #[.slice (some ⟨gb, go, none⟩) m pcap, .slice la ll lcap] 31) (.cells #[.slice none 0 0, .slice none 0 0] 31))
  have i1 : (0 : Int) ≤ (kk : Int) := by omega
  have i2 : (kk : Int) ≤ (pcap : Int) := by omega
  have i3 : (0 : Int) ≤ (kk : Int) + 1 := by omega
  have i4 : (kk : Int) + 1 ≤ (m : Int) := by omega
  have i5 : (m : Int) ≤ (pcap : Int) := by omega
  have i7 : ((kk : Int) + 1).toNat = kk + 1 := by omega
  have i8 : (kk : Int) + 1 ≤ (pcap : Int) := by omega
  have i6 : IntKind.i64.wrap ((kk : Int) + 1) = (kk : Int) + 1 := IntWalk.i64_in _ (by omega)
  go_enter Try.func74, Try.ntmps74
  go_upto_region 1 with fail
  generalize hW : (w.alloc (.cells #[.slice (some ⟨gb, go, none⟩) m pcap, .slice la ll lcap] 31)).alloc (.cells #[.slice none 0 0, .slice none 0 0] 31) = w2 at hb hH hH1 ⊢
  have HW2 := Lib.hid (show w.heap.size + 2 = w2.heap.size by rw [← hW]; simp)
  clear hW
  obtain ⟨k0, k1⟩ := cells2 hH.out
  have gl := lt_of hH.out
  have hHn := lt_of hH1.out
  have ne1 : ¬ w2.heap.size = w.heap.size := by have := HW2.out; omega
  have ne2 : ¬ w.heap.size = w2.heap.size := by have := HW2.out; omega
  have ne3 : ¬ w2.heap.size + 1 = w.heap.size := by have := HW2.out; omega
  have ne4 : ¬ w.heap.size = w2.heap.size + 1 := by have := HW2.out; omega
  go_cut [7] from 12 (fun s7 wz => ∃ (B : Nat) (ca : Option Addr) (cc : Nat), s7 = .pointer (some ⟨B, 0, none⟩) ∧ Hid (wz.heap[B]? = some (.cells #[.slice ca (n.progs.eraseIdx kk).length cc, .slice none 0 0] 31)) ∧ Hid (RowP w2.heap.size w wz (.slice ca (n.progs.eraseIdx kk).length cc) (n.progs.eraseIdx kk)) ∧ Hid (w2.heap.size ≤ B) ∧ Hid (Below w2.heap.size w2 wz))
  case first =>
    have HER := Lib.hid (show n.progs.take kk ++ n.progs.drop (kk + 1) = n.progs.eraseIdx kk from (List.eraseIdx_eq_take_drop_succ _ _).symm)
    have HTK := Lib.hid (slP_take HP.out (k := kk) (by rw [← NP.out]; omega))
    have HDR := Lib.hid (slP_drop HP.out (k := kk + 1) (by rw [← NP.out]; omega))
    have HLN := Lib.hid (show (n.progs.take kk).length ≤ 1000 ∧ (n.progs.drop (kk + 1)).length ≤ 1000 by rw [List.length_take, List.length_drop, ← NP.out]; omega)
    by_cases hpc : pcap = kk + 1
    · rw [if_pos hpc] at HDR
      obtain rfl : m = pcap := by omega
      have hck : kk + 1 = m := hpc.symm
      clear hpc
      rw [show m - (kk + 1) = 0 by omega] at HDR
      have CC := Lib.hid (fun (W : World) (G : Nat) (hw : Below w2.heap.size w2 W) (hg : W.heap[G]? = some (.cells #[.slice (some ⟨gb, go, none⟩) kk m, .slice (some ⟨gb, go, none⟩) 0 0] 28)) => icatP_any G _ _ (n.progs.take kk) (n.progs.drop (kk + 1)) w W hg HTK.out HDR.out (hb.out.trans (hw.mono hb.out.size)) HLN.out)
      rw [HER.out] at CC
      go_region_held3 (fun w' => w'.cell? ⟨w.heap.size, 0, none⟩ = some (.slice (some ⟨gb, go, none⟩) m m) ∧ w'.cell? ⟨w.heap.size, 1, none⟩ = some (.slice la ll lcap)) (go_keep) (first | (go_at_call 64; refine (CC.out _ _ (by first | with_reducible exact ((Below.refl _ _).al _).drew | with_reducible exact (((Below.refl _ _).al _).al _).drew | with_reducible exact (Below.refl _ _).al _ | with_reducible exact ((Below.refl _ _).al _).al _) (by first | exact hp1 w2 (.cells #[.slice (some ⟨gb, go, none⟩) kk m, .slice (some ⟨gb, go, none⟩) 0 0] 28) | exact hp21 w2 (.cells #[.slice (some ⟨gb, go, none⟩) kk m, .slice (some ⟨gb, go, none⟩) 0 0] 28) (.cells #[.slice none 0 0, .slice none 0 0] 31) | exact hp2 w2 (.cells #[.slice none 0 0, .slice none 0 0] 31) (.cells #[.slice (some ⟨gb, go, none⟩) kk m, .slice (some ⟨gb, go, none⟩) 0 0] 28))).mono ?_; rintro e W3 ⟨cv, rfl, hcv, hb3⟩; have HC3 := Lib.hid ((show Below w2.heap.size w2 _ by exact (by first | with_reducible exact ((Below.refl _ _).al _).drew | with_reducible exact (((Below.refl _ _).al _).al _).drew | with_reducible exact (Below.refl _ _).al _ | with_reducible exact ((Below.refl _ _).al _).al _)).trans (hb3.mono (by simp <;> omega))); have HCV := Lib.hid hcv; obtain ⟨ca, cc, rfl⟩ := hcv.shape; have G3 := Lib.hid (blk_in hH.out HC3.out); obtain ⟨q0, q1⟩ := cells2 G3.out; have ql := lt_of G3.out; (first | (have D3 := Lib.hid (show W3.heap[w2.heap.size + 1]? = some (.cells #[.slice none 0 0, .slice none 0 0] 31) by first | exact blk_in (W := ((w2.alloc (.cells #[.slice (some ⟨gb, go, none⟩) kk m, .slice (some ⟨gb, go, none⟩) 0 0] 28)).alloc (.cells #[.slice none 0 0, .slice none 0 0] 31)).drew) (hp2 w2 _ _) hb3 | exact blk_in (W := (w2.alloc (.cells #[.slice (some ⟨gb, go, none⟩) kk m, .slice (some ⟨gb, go, none⟩) 0 0] 28)).alloc (.cells #[.slice none 0 0, .slice none 0 0] 31)) (hp2 w2 _ _) hb3); obtain ⟨d0, d1⟩ := cells2 D3.out; have dl := lt_of D3.out; have dz0 := fr_of D3.out 0; have dz1 := fr_of D3.out 1; clear hcv hb3) | (have D3 := Lib.hid (show W3.heap[w2.heap.size]? = some (.cells #[.slice none 0 0, .slice none 0 0] 31) by first | exact blk_in (W := ((w2.alloc (.cells #[.slice none 0 0, .slice none 0 0] 31)).alloc (.cells #[.slice (some ⟨gb, go, none⟩) kk m, .slice (some ⟨gb, go, none⟩) 0 0] 28)).drew) (hp21 w2 _ _) hb3 | exact blk_in (W := (w2.alloc (.cells #[.slice none 0 0, .slice none 0 0] 31)).alloc (.cells #[.slice (some ⟨gb, go, none⟩) kk m, .slice (some ⟨gb, go, none⟩) 0 0] 28)) (hp21 w2 _ _) hb3); obtain ⟨d0, d1⟩ := cells2 D3.out; have dl := lt_of D3.out; have dz0 := fr_of D3.out 0; have dz1 := fr_of D3.out 1; clear hcv hb3) | clear hcv hb3)))
      all_goals (
        go_wp2_with fail
        go_meet
        case rel =>
          refine ⟨_, ca, cc, rfl, ?_, ?_, ?_, ?_⟩
          · first
            | exact Lib.hid (hp1 _ _)
            | exact Lib.hid (set2_all D3.out _ _).1
          · first
            | exact Lib.hid ((HCV.out.below ((Below.refl _ _).al _)).mono (by simp <;> omega))
            | exact Lib.hid (RowP.mono (RowP.out HCV.out (set2_all D3.out _ _).2 (fun q e => .inr (by have := (HCV.out.lt q e).1; simp at this; omega))) (by simp <;> omega))
          · first
            | exact Lib.hid HC3.out.size
            | exact Lib.hid (Nat.le_refl _)
            | exact Lib.hid (Nat.le_succ _)
          · first
            | exact Lib.hid (HC3.out.al _)
            | exact Lib.hid ((set2_all D3.out _ _).2.below HC3.out HC3.out.size (by simp <;> omega)))
    · rw [if_neg hpc] at HDR
      have CC := Lib.hid (fun (W : World) (G : Nat) (hw : Below w2.heap.size w2 W) (hg : W.heap[G]? = some (.cells #[.slice (some ⟨gb, go, none⟩) kk pcap, .slice (some ⟨gb, go + (kk + 1) * 3, none⟩) (m - (kk + 1)) (pcap - (kk + 1))] 28)) => icatP_any G _ _ (n.progs.take kk) (n.progs.drop (kk + 1)) w W hg HTK.out HDR.out (hb.out.trans (hw.mono hb.out.size)) HLN.out)
      rw [HER.out] at CC
      go_region_held3 (fun w' => w'.cell? ⟨w.heap.size, 0, none⟩ = some (.slice (some ⟨gb, go, none⟩) m pcap) ∧ w'.cell? ⟨w.heap.size, 1, none⟩ = some (.slice la ll lcap)) (go_keep) (first | (go_at_call 64; refine (CC.out _ _ (by first | with_reducible exact ((Below.refl _ _).al _).drew | with_reducible exact (((Below.refl _ _).al _).al _).drew | with_reducible exact (Below.refl _ _).al _ | with_reducible exact ((Below.refl _ _).al _).al _) (by first | exact hp1 w2 (.cells #[.slice (some ⟨gb, go, none⟩) kk pcap, .slice (some ⟨gb, go + (kk + 1) * 3, none⟩) (m - (kk + 1)) (pcap - (kk + 1))] 28) | exact hp21 w2 (.cells #[.slice (some ⟨gb, go, none⟩) kk pcap, .slice (some ⟨gb, go + (kk + 1) * 3, none⟩) (m - (kk + 1)) (pcap - (kk + 1))] 28) (.cells #[.slice none 0 0, .slice none 0 0] 31) | exact hp2 w2 (.cells #[.slice none 0 0, .slice none 0 0] 31) (.cells #[.slice (some ⟨gb, go, none⟩) kk pcap, .slice (some ⟨gb, go + (kk + 1) * 3, none⟩) (m - (kk + 1)) (pcap - (kk + 1))] 28))).mono ?_; rintro e W3 ⟨cv, rfl, hcv, hb3⟩; have HC3 := Lib.hid ((show Below w2.heap.size w2 _ by exact (by first | with_reducible exact ((Below.refl _ _).al _).drew | with_reducible exact (((Below.refl _ _).al _).al _).drew | with_reducible exact (Below.refl _ _).al _ | with_reducible exact ((Below.refl _ _).al _).al _)).trans (hb3.mono (by simp <;> omega))); have HCV := Lib.hid hcv; obtain ⟨ca, cc, rfl⟩ := hcv.shape; have G3 := Lib.hid (blk_in hH.out HC3.out); obtain ⟨q0, q1⟩ := cells2 G3.out; have ql := lt_of G3.out; (first | (have D3 := Lib.hid (show W3.heap[w2.heap.size + 1]? = some (.cells #[.slice none 0 0, .slice none 0 0] 31) by first | exact blk_in (W := ((w2.alloc (.cells #[.slice (some ⟨gb, go, none⟩) kk pcap, .slice (some ⟨gb, go + (kk + 1) * 3, none⟩) (m - (kk + 1)) (pcap - (kk + 1))] 28)).alloc (.cells #[.slice none 0 0, .slice none 0 0] 31)).drew) (hp2 w2 _ _) hb3 | exact blk_in (W := (w2.alloc (.cells #[.slice (some ⟨gb, go, none⟩) kk pcap, .slice (some ⟨gb, go + (kk + 1) * 3, none⟩) (m - (kk + 1)) (pcap - (kk + 1))] 28)).alloc (.cells #[.slice none 0 0, .slice none 0 0] 31)) (hp2 w2 _ _) hb3); obtain ⟨d0, d1⟩ := cells2 D3.out; have dl := lt_of D3.out; have dz0 := fr_of D3.out 0; have dz1 := fr_of D3.out 1; clear hcv hb3) | (have D3 := Lib.hid (show W3.heap[w2.heap.size]? = some (.cells #[.slice none 0 0, .slice none 0 0] 31) by first | exact blk_in (W := ((w2.alloc (.cells #[.slice none 0 0, .slice none 0 0] 31)).alloc (.cells #[.slice (some ⟨gb, go, none⟩) kk pcap, .slice (some ⟨gb, go + (kk + 1) * 3, none⟩) (m - (kk + 1)) (pcap - (kk + 1))] 28)).drew) (hp21 w2 _ _) hb3 | exact blk_in (W := (w2.alloc (.cells #[.slice none 0 0, .slice none 0 0] 31)).alloc (.cells #[.slice (some ⟨gb, go, none⟩) kk pcap, .slice (some ⟨gb, go + (kk + 1) * 3, none⟩) (m - (kk + 1)) (pcap - (kk + 1))] 28)) (hp21 w2 _ _) hb3); obtain ⟨d0, d1⟩ := cells2 D3.out; have dl := lt_of D3.out; have dz0 := fr_of D3.out 0; have dz1 := fr_of D3.out 1; clear hcv hb3) | clear hcv hb3)))
      all_goals (
        go_wp2_with fail
        go_meet
        case rel =>
          refine ⟨_, ca, cc, rfl, ?_, ?_, ?_, ?_⟩
          · first
            | exact Lib.hid (hp1 _ _)
            | exact Lib.hid (set2_all D3.out _ _).1
          · first
            | exact Lib.hid ((HCV.out.below ((Below.refl _ _).al _)).mono (by simp <;> omega))
            | exact Lib.hid (RowP.mono (RowP.out HCV.out (set2_all D3.out _ _).2 (fun q e => .inr (by have := (HCV.out.lt q e).1; simp at this; omega))) (by simp <;> omega))
          · first
            | exact Lib.hid HC3.out.size
            | exact Lib.hid (Nat.le_refl _)
            | exact Lib.hid (Nat.le_succ _)
          · first
            | exact Lib.hid (HC3.out.al _)
            | exact Lib.hid ((set2_all D3.out _ _).2.below HC3.out HC3.out.size (by simp <;> omega)))
  case rest =>
    rename World => w5
    obtain ⟨B, pA, pC, rfl, HS5, HR5, HBB, HC5⟩ := hcut
    obtain ⟨mP, hmP⟩ : ∃ z, z = (n.progs.eraseIdx kk).length := ⟨_, rfl⟩
    rw [← hmP] at HS5 HR5
    have HMP := Lib.hid hmP
    clear hmP k0 k1 gl hHn ne1 ne2 ne3 ne4
    have HB5 := Lib.hid (hb.out.trans (HC5.out.mono hb.out.size))
    have G5 := Lib.hid (blk_in hH.out HC5.out)
    have J5 := Lib.hid (blk_in hH1.out HC5.out)
    have HBL := Lib.hid (lt_of HS5.out)
    have HB0 := Lib.hid (show w.heap.size + 2 ≤ B by have := HBB.out; have := HW2.out; omega)
    obtain ⟨k0, k1⟩ := cells2 G5.out
    have gl := lt_of G5.out
    go_wp2_with fail
    clear k0 k1 gl
    go_loopw [27] (fun i wr => ∃ (j c : Nat) (oa : Option Addr) (oc : Nat), j ≤ ll ∧ i = .int .i64 j ∧ c ≤ j ∧ Hid (c = (repLs kk f g (n.links.take j)).length) ∧ Hid (wr.heap[B]? = some (.cells #[.slice pA mP pC, .slice oa c oc] 31)) ∧ Hid (RowL w5.heap.size w wr (.slice oa c oc) (repLs kk f g (n.links.take j))) ∧ Hid (Out B (B + 1) w5 wr)) (fun i _ => ll - (intOf i).toNat)
    case atStart => exact ⟨0, 0, none, 0, Nat.zero_le _, rfl, Nat.le_refl _, Lib.hid rfl, HS5, Lib.hid (RowL.nil _ _ _), Lib.hid (Out.refl _ _ _)⟩
    case round =>
      obtain ⟨j, c, oa, oc, hjl, rfl, hcj, HCL, HS, HG, HO⟩ := hrel
      have HBW := Lib.hid (HO.out.below HB5.out HB5.out.size (by have := HB0.out; omega))
      by_cases hlt : j < ll
      case pos =>
        obtain ⟨x, hx⟩ : ∃ x, (n.links)[j]? = some x := ⟨_, List.getElem?_eq_getElem (by rw [← NL.out]; exact hlt)⟩
        obtain ⟨lgb, lgo, pcv, rfl, hgb0, d0, d1, d2, d3, d4, es⟩ := HL.out.atb hx
        have hxm := List.mem_of_getElem? hx
        have HX := Lib.hid hx
        have HXM := Lib.hid hxm
        have HXE := HEN.out x hxm
        clear hx hxm
        have ES := Lib.hid es
        have e0 := (HBW.out.cell (p := ⟨lgb, lgo + j * 5, none⟩) hgb0).trans d0
        have e1 := (HBW.out.cell (p := ⟨lgb, lgo + j * 5 + 1, none⟩) hgb0).trans d1
        have e2 := (HBW.out.cell (p := ⟨lgb, lgo + j * 5 + 2, none⟩) hgb0).trans d2
        have e3 := (HBW.out.cell (p := ⟨lgb, lgo + j * 5 + 3, none⟩) hgb0).trans d3
        have e4 := (HBW.out.cell (p := ⟨lgb, lgo + j * 5 + 4, none⟩) hgb0).trans d4
        have hgb1 := Nat.lt_of_lt_of_le hgb0 HBW.out.size
        clear d0 d1 d2 d3 d4 hgb0
        obtain ⟨x0, x1, x2, x3, row⟩ := x
        simp only [] at e0 e1 e2 e3 e4 ES HXE
        obtain ⟨ua, uc, rfl⟩ := es.shape
        obtain ⟨ul, hul⟩ : ∃ q, q = row.length := ⟨_, rfl⟩
        rw [← hul] at e4 ES
        clear hul es
        have hz1w : w5.heap.size ≤ wr.heap.size := HO.out.size
        go_upto_region 5 with fail
        generalize hW : wr.alloc (.cells #[.int .i64 x0, .int .i64 x1, .int .i64 x2, .int .i64 x3, .slice ua ul uc] 68) = W1
        have HC1 := Lib.hid (show Below wr.heap.size wr W1 by rw [← hW]; exact (Below.refl _ _).al _)
        have X1 := Lib.hid (show W1.heap[wr.heap.size]? = some (.cells #[.int .i64 x0, .int .i64 x1, .int .i64 x2, .int .i64 x3, .slice ua ul uc] 68) by rw [← hW]; exact hp1 _ _)
        clear hW
        obtain ⟨X, hXe⟩ : ∃ z, z = wr.heap.size := ⟨_, rfl⟩
        have HXW := Lib.hid hXe
        rw [← hXe] at X1 ⊢
        clear hXe
        obtain ⟨p0, p1, p2, p3, p4⟩ := cells5 X1.out
        have pl := lt_of X1.out
        go_cut [10, 11, 27] from 27 to 79 (fun s10 s11 i wz => ∃ G1 G2 : Nat, s10 = .pointer (some ⟨G1, 0, none⟩) ∧ s11 = .pointer (some ⟨G2, 0, none⟩) ∧ i = .int .i64 j ∧ Hid (G1 ≠ G2 ∧ W1.heap.size ≤ G1 ∧ W1.heap.size ≤ G2) ∧ Hid (wz.heap[G1]? = some (.cells #[.int .i64 (behE kk (x0, x1)).1, .int .i64 (behE kk (x0, x1)).2] 133)) ∧ Hid (wz.heap[G2]? = some (.cells #[.int .i64 (behE kk (x2, x3)).1, .int .i64 (behE kk (x2, x3)).2] 133)) ∧ Hid (Below W1.heap.size W1 wz))
        case first =>
          have hx0 := HXE.1
          have hx2 := HXE.2
          clear ES HG HCL HX HXM HL HP HSM HMP HR5 HEN HCS HCT HC5 HB5 G5 J5 HBW
          go_region_held3 (fun w' => w'.cell? ⟨X, 0, none⟩ = some (.int .i64 x0) ∧ w'.cell? ⟨X, 1, none⟩ = some (.int .i64 x1) ∧ w'.cell? ⟨X, 2, none⟩ = some (.int .i64 x2) ∧ w'.cell? ⟨X, 3, none⟩ = some (.int .i64 x3) ∧ w'.cell? ⟨X, 4, none⟩ = some (.slice ua ul uc)) (go_keep) (first | (go_at_call 129; (with_reducible refine (iendb_any kk x2 x3 _ hx2).mono ?_); rintro e V4 ⟨rfl, hx4⟩; have HP4 := Lib.hid ((show Below V3.heap.size V3 _ by exact (by first | with_reducible exact Below.refl _ _ | with_reducible exact (Below.refl _ _).drew | with_reducible exact ((Below.refl _ _).al _).drew | with_reducible exact (((Below.refl _ _).al _).al _).drew | with_reducible exact (Below.refl _ _).al _ | with_reducible exact ((Below.refl _ _).al _).al _ | with_reducible exact (Below.refl _ _).drew.al _ | with_reducible exact ((Below.refl _ _).drew.al _).al _)).trans (hx4.mono (by simp <;> omega))); have HB14 := Lib.hid (HB13.out.trans (HP4.out.mono HB13.out.size)); have s4 : V3.heap.size ≤ V4.heap.size := HP4.out.size; (try replace z10 := Lib.hid (blk_in z10.out HP4.out)); (try replace z11 := Lib.hid (blk_in z11.out HP4.out)); (try replace z20 := Lib.hid (blk_in z20.out HP4.out)); (try replace z21 := Lib.hid (blk_in z21.out HP4.out)); (try replace z30 := Lib.hid (blk_in z30.out HP4.out)); (try replace z31 := Lib.hid (blk_in z31.out HP4.out)); (try have z40 := Lib.hid (show V4.heap[V3.heap.size]? = some (.cells #[.int .i64 0, .int .i64 0] 133) by first | exact blk_in (W := (World.drew V3).alloc (.cells #[.int .i64 0, .int .i64 0] 133)) (hp1 (World.drew V3) _) hx4 | exact blk_in (W := ((World.drew V3).alloc (.cells #[.int .i64 0, .int .i64 0] 133)).alloc (.cells #[.int .i64 0, .int .i64 0] 133)) (hp21 (World.drew V3) _ _) hx4 | exact blk_in (W := (V3.alloc (.cells #[.int .i64 0, .int .i64 0] 133)).drew) (hp1 V3 _) hx4 | exact blk_in (W := V3.alloc (.cells #[.int .i64 0, .int .i64 0] 133)) (hp1 V3 _) hx4 | exact blk_in (W := ((V3.alloc (.cells #[.int .i64 0, .int .i64 0] 133)).alloc (.cells #[.int .i64 0, .int .i64 0] 133)).drew) (hp21 V3 _ _) hx4 | exact blk_in (W := (V3.alloc (.cells #[.int .i64 0, .int .i64 0] 133)).alloc (.cells #[.int .i64 0, .int .i64 0] 133)) (hp21 V3 _ _) hx4)); (try have z41 := Lib.hid (show V4.heap[V3.heap.size + 1]? = some (.cells #[.int .i64 0, .int .i64 0] 133) by first | exact blk_in (W := ((World.drew V3).alloc (.cells #[.int .i64 0, .int .i64 0] 133)).alloc (.cells #[.int .i64 0, .int .i64 0] 133)) (hp2 (World.drew V3) _ _) hx4 | exact blk_in (W := ((V3.alloc (.cells #[.int .i64 0, .int .i64 0] 133)).alloc (.cells #[.int .i64 0, .int .i64 0] 133)).drew) (hp2 V3 _ _) hx4 | exact blk_in (W := (V3.alloc (.cells #[.int .i64 0, .int .i64 0] 133)).alloc (.cells #[.int .i64 0, .int .i64 0] 133)) (hp2 V3 _ _) hx4)); (try (have t4 := lt_of (blk_in (g := V3.heap.size) (o := (.cells #[.int .i64 0, .int .i64 0] 133)) z40.out (Below.refl _ _)))); (try (have u4 := lt_of (blk_in (g := V3.heap.size + 1) (o := (.cells #[.int .i64 0, .int .i64 0] 133)) z41.out (Below.refl _ _)))); have Q4 := Lib.hid (blk_in X1.out HB14.out); obtain ⟨f40, f41, f42, f43, f44⟩ := cells5 Q4.out; have fl4 := lt_of Q4.out; (try (obtain ⟨y100, y101⟩ := cells2 z10.out; have yl10 := lt_of z10.out; have ya10 := fr_of z10.out 0; have yb10 := fr_of z10.out 1; have na10 : ¬ W1.heap.size = X := (by omega); have nb10 : ¬ X = W1.heap.size := (by omega))); (try (obtain ⟨y110, y111⟩ := cells2 z11.out; have yl11 := lt_of z11.out; have ya11 := fr_of z11.out 0; have yb11 := fr_of z11.out 1; have na11 : ¬ W1.heap.size + 1 = X := (by omega); have nb11 : ¬ X = W1.heap.size + 1 := (by omega))); (try (obtain ⟨y200, y201⟩ := cells2 z20.out; have yl20 := lt_of z20.out; have ya20 := fr_of z20.out 0; have yb20 := fr_of z20.out 1; have na20 : ¬ V1.heap.size = X := (by omega); have nb20 : ¬ X = V1.heap.size := (by omega))); (try (obtain ⟨y210, y211⟩ := cells2 z21.out; have yl21 := lt_of z21.out; have ya21 := fr_of z21.out 0; have yb21 := fr_of z21.out 1; have na21 : ¬ V1.heap.size + 1 = X := (by omega); have nb21 : ¬ X = V1.heap.size + 1 := (by omega))); (try (obtain ⟨y300, y301⟩ := cells2 z30.out; have yl30 := lt_of z30.out; have ya30 := fr_of z30.out 0; have yb30 := fr_of z30.out 1; have na30 : ¬ V2.heap.size = X := (by omega); have nb30 : ¬ X = V2.heap.size := (by omega))); (try (obtain ⟨y310, y311⟩ := cells2 z31.out; have yl31 := lt_of z31.out; have ya31 := fr_of z31.out 0; have yb31 := fr_of z31.out 1; have na31 : ¬ V2.heap.size + 1 = X := (by omega); have nb31 : ¬ X = V2.heap.size + 1 := (by omega))); (try (obtain ⟨y400, y401⟩ := cells2 z40.out; have yl40 := lt_of z40.out; have ya40 := fr_of z40.out 0; have yb40 := fr_of z40.out 1; have na40 : ¬ V3.heap.size = X := (by omega); have nb40 : ¬ X = V3.heap.size := (by omega))); (try (obtain ⟨y410, y411⟩ := cells2 z41.out; have yl41 := lt_of z41.out; have ya41 := fr_of z41.out 0; have yb41 := fr_of z41.out 1; have na41 : ¬ V3.heap.size + 1 = X := (by omega); have nb41 : ¬ X = V3.heap.size + 1 := (by omega))); have na50 : ¬ V4.heap.size = X := (by omega); have nb50 : ¬ X = V4.heap.size := (by omega); (try (have nc := y100; clear nc; have nc5010 : ¬ V4.heap.size = W1.heap.size := (by omega); have nd5010 : ¬ W1.heap.size = V4.heap.size := (by omega))); (try (have nc := y110; clear nc; have nc5011 : ¬ V4.heap.size = W1.heap.size + 1 := (by omega); have nd5011 : ¬ W1.heap.size + 1 = V4.heap.size := (by omega))); (try (have nc := y200; clear nc; have nc5020 : ¬ V4.heap.size = V1.heap.size := (by omega); have nd5020 : ¬ V1.heap.size = V4.heap.size := (by omega))); (try (have nc := y210; clear nc; have nc5021 : ¬ V4.heap.size = V1.heap.size + 1 := (by omega); have nd5021 : ¬ V1.heap.size + 1 = V4.heap.size := (by omega))); (try (have nc := y300; clear nc; have nc5030 : ¬ V4.heap.size = V2.heap.size := (by omega); have nd5030 : ¬ V2.heap.size = V4.heap.size := (by omega))); (try (have nc := y310; clear nc; have nc5031 : ¬ V4.heap.size = V2.heap.size + 1 := (by omega); have nd5031 : ¬ V2.heap.size + 1 = V4.heap.size := (by omega))); (try (have nc := y400; clear nc; have nc5040 : ¬ V4.heap.size = V3.heap.size := (by omega); have nd5040 : ¬ V3.heap.size = V4.heap.size := (by omega))); (try (have nc := y410; clear nc; have nc5041 : ¬ V4.heap.size = V3.heap.size + 1 := (by omega); have nd5041 : ¬ V3.heap.size + 1 = V4.heap.size := (by omega))); have na51 : ¬ V4.heap.size + 1 = X := (by omega); have nb51 : ¬ X = V4.heap.size + 1 := (by omega); (try (have nc := y100; clear nc; have nc5110 : ¬ V4.heap.size + 1 = W1.heap.size := (by omega); have nd5110 : ¬ W1.heap.size = V4.heap.size + 1 := (by omega))); (try (have nc := y110; clear nc; have nc5111 : ¬ V4.heap.size + 1 = W1.heap.size + 1 := (by omega); have nd5111 : ¬ W1.heap.size + 1 = V4.heap.size + 1 := (by omega))); (try (have nc := y200; clear nc; have nc5120 : ¬ V4.heap.size + 1 = V1.heap.size := (by omega); have nd5120 : ¬ V1.heap.size = V4.heap.size + 1 := (by omega))); (try (have nc := y210; clear nc; have nc5121 : ¬ V4.heap.size + 1 = V1.heap.size + 1 := (by omega); have nd5121 : ¬ V1.heap.size + 1 = V4.heap.size + 1 := (by omega))); (try (have nc := y300; clear nc; have nc5130 : ¬ V4.heap.size + 1 = V2.heap.size := (by omega); have nd5130 : ¬ V2.heap.size = V4.heap.size + 1 := (by omega))); (try (have nc := y310; clear nc; have nc5131 : ¬ V4.heap.size + 1 = V2.heap.size + 1 := (by omega); have nd5131 : ¬ V2.heap.size + 1 = V4.heap.size + 1 := (by omega))); (try (have nc := y400; clear nc; have nc5140 : ¬ V4.heap.size + 1 = V3.heap.size := (by omega); have nd5140 : ¬ V3.heap.size = V4.heap.size + 1 := (by omega))); (try (have nc := y410; clear nc; have nc5141 : ¬ V4.heap.size + 1 = V3.heap.size + 1 := (by omega); have nd5141 : ¬ V3.heap.size + 1 = V4.heap.size + 1 := (by omega))); (try (have nc := y110; have nd := y100; clear nc nd; have nc1110 : ¬ W1.heap.size + 1 = W1.heap.size := (by omega); have nd1110 : ¬ W1.heap.size = W1.heap.size + 1 := (by omega))); (try (have nc := y200; have nd := y100; clear nc nd; have nc2010 : ¬ V1.heap.size = W1.heap.size := (by omega); have nd2010 : ¬ W1.heap.size = V1.heap.size := (by omega))); (try (have nc := y200; have nd := y110; clear nc nd; have nc2011 : ¬ V1.heap.size = W1.heap.size + 1 := (by omega); have nd2011 : ¬ W1.heap.size + 1 = V1.heap.size := (by omega))); (try (have nc := y210; have nd := y100; clear nc nd; have nc2110 : ¬ V1.heap.size + 1 = W1.heap.size := (by omega); have nd2110 : ¬ W1.heap.size = V1.heap.size + 1 := (by omega))); (try (have nc := y210; have nd := y110; clear nc nd; have nc2111 : ¬ V1.heap.size + 1 = W1.heap.size + 1 := (by omega); have nd2111 : ¬ W1.heap.size + 1 = V1.heap.size + 1 := (by omega))); (try (have nc := y210; have nd := y200; clear nc nd; have nc2120 : ¬ V1.heap.size + 1 = V1.heap.size := (by omega); have nd2120 : ¬ V1.heap.size = V1.heap.size + 1 := (by omega))); (try (have nc := y300; have nd := y100; clear nc nd; have nc3010 : ¬ V2.heap.size = W1.heap.size := (by omega); have nd3010 : ¬ W1.heap.size = V2.heap.size := (by omega))); (try (have nc := y300; have nd := y110; clear nc nd; have nc3011 : ¬ V2.heap.size = W1.heap.size + 1 := (by omega); have nd3011 : ¬ W1.heap.size + 1 = V2.heap.size := (by omega))); (try (have nc := y300; have nd := y200; clear nc nd; have nc3020 : ¬ V2.heap.size = V1.heap.size := (by omega); have nd3020 : ¬ V1.heap.size = V2.heap.size := (by omega))); (try (have nc := y300; have nd := y210; clear nc nd; have nc3021 : ¬ V2.heap.size = V1.heap.size + 1 := (by omega); have nd3021 : ¬ V1.heap.size + 1 = V2.heap.size := (by omega))); (try (have nc := y310; have nd := y100; clear nc nd; have nc3110 : ¬ V2.heap.size + 1 = W1.heap.size := (by omega); have nd3110 : ¬ W1.heap.size = V2.heap.size + 1 := (by omega))); (try (have nc := y310; have nd := y110; clear nc nd; have nc3111 : ¬ V2.heap.size + 1 = W1.heap.size + 1 := (by omega); have nd3111 : ¬ W1.heap.size + 1 = V2.heap.size + 1 := (by omega))); (try (have nc := y310; have nd := y200; clear nc nd; have nc3120 : ¬ V2.heap.size + 1 = V1.heap.size := (by omega); have nd3120 : ¬ V1.heap.size = V2.heap.size + 1 := (by omega))); (try (have nc := y310; have nd := y210; clear nc nd; have nc3121 : ¬ V2.heap.size + 1 = V1.heap.size + 1 := (by omega); have nd3121 : ¬ V1.heap.size + 1 = V2.heap.size + 1 := (by omega))); (try (have nc := y310; have nd := y300; clear nc nd; have nc3130 : ¬ V2.heap.size + 1 = V2.heap.size := (by omega); have nd3130 : ¬ V2.heap.size = V2.heap.size + 1 := (by omega))); (try (have nc := y400; have nd := y100; clear nc nd; have nc4010 : ¬ V3.heap.size = W1.heap.size := (by omega); have nd4010 : ¬ W1.heap.size = V3.heap.size := (by omega))); (try (have nc := y400; have nd := y110; clear nc nd; have nc4011 : ¬ V3.heap.size = W1.heap.size + 1 := (by omega); have nd4011 : ¬ W1.heap.size + 1 = V3.heap.size := (by omega))); (try (have nc := y400; have nd := y200; clear nc nd; have nc4020 : ¬ V3.heap.size = V1.heap.size := (by omega); have nd4020 : ¬ V1.heap.size = V3.heap.size := (by omega))); (try (have nc := y400; have nd := y210; clear nc nd; have nc4021 : ¬ V3.heap.size = V1.heap.size + 1 := (by omega); have nd4021 : ¬ V1.heap.size + 1 = V3.heap.size := (by omega))); (try (have nc := y400; have nd := y300; clear nc nd; have nc4030 : ¬ V3.heap.size = V2.heap.size := (by omega); have nd4030 : ¬ V2.heap.size = V3.heap.size := (by omega))); (try (have nc := y400; have nd := y310; clear nc nd; have nc4031 : ¬ V3.heap.size = V2.heap.size + 1 := (by omega); have nd4031 : ¬ V2.heap.size + 1 = V3.heap.size := (by omega))); (try (have nc := y410; have nd := y100; clear nc nd; have nc4110 : ¬ V3.heap.size + 1 = W1.heap.size := (by omega); have nd4110 : ¬ W1.heap.size = V3.heap.size + 1 := (by omega))); (try (have nc := y410; have nd := y110; clear nc nd; have nc4111 : ¬ V3.heap.size + 1 = W1.heap.size + 1 := (by omega); have nd4111 : ¬ W1.heap.size + 1 = V3.heap.size + 1 := (by omega))); (try (have nc := y410; have nd := y200; clear nc nd; have nc4120 : ¬ V3.heap.size + 1 = V1.heap.size := (by omega); have nd4120 : ¬ V1.heap.size = V3.heap.size + 1 := (by omega))); (try (have nc := y410; have nd := y210; clear nc nd; have nc4121 : ¬ V3.heap.size + 1 = V1.heap.size + 1 := (by omega); have nd4121 : ¬ V1.heap.size + 1 = V3.heap.size + 1 := (by omega))); (try (have nc := y410; have nd := y300; clear nc nd; have nc4130 : ¬ V3.heap.size + 1 = V2.heap.size := (by omega); have nd4130 : ¬ V2.heap.size = V3.heap.size + 1 := (by omega))); (try (have nc := y410; have nd := y310; clear nc nd; have nc4131 : ¬ V3.heap.size + 1 = V2.heap.size + 1 := (by omega); have nd4131 : ¬ V2.heap.size + 1 = V3.heap.size + 1 := (by omega))); (try (have nc := y410; have nd := y400; clear nc nd; have nc4140 : ¬ V3.heap.size + 1 = V3.heap.size := (by omega); have nd4140 : ¬ V3.heap.size = V3.heap.size + 1 := (by omega))); clear hx4) | (go_at_call 113; (with_reducible refine (itgt_any x0 x1 x2 x3 _ _).mono ?_); rintro e V3 ⟨rfl, hx3⟩; have HP3 := Lib.hid ((show Below V2.heap.size V2 _ by exact (by first | with_reducible exact Below.refl _ _ | with_reducible exact (Below.refl _ _).drew | with_reducible exact ((Below.refl _ _).al _).drew | with_reducible exact (((Below.refl _ _).al _).al _).drew | with_reducible exact (Below.refl _ _).al _ | with_reducible exact ((Below.refl _ _).al _).al _ | with_reducible exact (Below.refl _ _).drew.al _ | with_reducible exact ((Below.refl _ _).drew.al _).al _)).trans (hx3.mono (by simp <;> omega))); have HB13 := Lib.hid (HB12.out.trans (HP3.out.mono HB12.out.size)); have s3 : V2.heap.size ≤ V3.heap.size := HP3.out.size; (try replace z10 := Lib.hid (blk_in z10.out HP3.out)); (try replace z11 := Lib.hid (blk_in z11.out HP3.out)); (try replace z20 := Lib.hid (blk_in z20.out HP3.out)); (try replace z21 := Lib.hid (blk_in z21.out HP3.out)); (try have z30 := Lib.hid (show V3.heap[V2.heap.size]? = some (.cells #[.int .i64 0, .int .i64 0] 133) by first | exact blk_in (W := (World.drew V2).alloc (.cells #[.int .i64 0, .int .i64 0] 133)) (hp1 (World.drew V2) _) hx3 | exact blk_in (W := ((World.drew V2).alloc (.cells #[.int .i64 0, .int .i64 0] 133)).alloc (.cells #[.int .i64 0, .int .i64 0] 133)) (hp21 (World.drew V2) _ _) hx3 | exact blk_in (W := (V2.alloc (.cells #[.int .i64 0, .int .i64 0] 133)).drew) (hp1 V2 _) hx3 | exact blk_in (W := V2.alloc (.cells #[.int .i64 0, .int .i64 0] 133)) (hp1 V2 _) hx3 | exact blk_in (W := ((V2.alloc (.cells #[.int .i64 0, .int .i64 0] 133)).alloc (.cells #[.int .i64 0, .int .i64 0] 133)).drew) (hp21 V2 _ _) hx3 | exact blk_in (W := (V2.alloc (.cells #[.int .i64 0, .int .i64 0] 133)).alloc (.cells #[.int .i64 0, .int .i64 0] 133)) (hp21 V2 _ _) hx3)); (try have z31 := Lib.hid (show V3.heap[V2.heap.size + 1]? = some (.cells #[.int .i64 0, .int .i64 0] 133) by first | exact blk_in (W := ((World.drew V2).alloc (.cells #[.int .i64 0, .int .i64 0] 133)).alloc (.cells #[.int .i64 0, .int .i64 0] 133)) (hp2 (World.drew V2) _ _) hx3 | exact blk_in (W := ((V2.alloc (.cells #[.int .i64 0, .int .i64 0] 133)).alloc (.cells #[.int .i64 0, .int .i64 0] 133)).drew) (hp2 V2 _ _) hx3 | exact blk_in (W := (V2.alloc (.cells #[.int .i64 0, .int .i64 0] 133)).alloc (.cells #[.int .i64 0, .int .i64 0] 133)) (hp2 V2 _ _) hx3)); (try (have t3 := lt_of (blk_in (g := V2.heap.size) (o := (.cells #[.int .i64 0, .int .i64 0] 133)) z30.out (Below.refl _ _)))); (try (have u3 := lt_of (blk_in (g := V2.heap.size + 1) (o := (.cells #[.int .i64 0, .int .i64 0] 133)) z31.out (Below.refl _ _)))); have Q3 := Lib.hid (blk_in X1.out HB13.out); obtain ⟨f30, f31, f32, f33, f34⟩ := cells5 Q3.out; have fl3 := lt_of Q3.out; clear hx3) | (go_at_call 129; (with_reducible refine (iendb_any kk x0 x1 _ hx0).mono ?_); rintro e V2 ⟨rfl, hx2⟩; have HP2 := Lib.hid ((show Below V1.heap.size V1 _ by exact (by first | with_reducible exact Below.refl _ _ | with_reducible exact (Below.refl _ _).drew | with_reducible exact ((Below.refl _ _).al _).drew | with_reducible exact (((Below.refl _ _).al _).al _).drew | with_reducible exact (Below.refl _ _).al _ | with_reducible exact ((Below.refl _ _).al _).al _ | with_reducible exact (Below.refl _ _).drew.al _ | with_reducible exact ((Below.refl _ _).drew.al _).al _)).trans (hx2.mono (by simp <;> omega))); have HB12 := Lib.hid (HB11.out.trans (HP2.out.mono HB11.out.size)); have s2 : V1.heap.size ≤ V2.heap.size := HP2.out.size; (try replace z10 := Lib.hid (blk_in z10.out HP2.out)); (try replace z11 := Lib.hid (blk_in z11.out HP2.out)); (try have z20 := Lib.hid (show V2.heap[V1.heap.size]? = some (.cells #[.int .i64 0, .int .i64 0] 133) by first | exact blk_in (W := (World.drew V1).alloc (.cells #[.int .i64 0, .int .i64 0] 133)) (hp1 (World.drew V1) _) hx2 | exact blk_in (W := ((World.drew V1).alloc (.cells #[.int .i64 0, .int .i64 0] 133)).alloc (.cells #[.int .i64 0, .int .i64 0] 133)) (hp21 (World.drew V1) _ _) hx2 | exact blk_in (W := (V1.alloc (.cells #[.int .i64 0, .int .i64 0] 133)).drew) (hp1 V1 _) hx2 | exact blk_in (W := V1.alloc (.cells #[.int .i64 0, .int .i64 0] 133)) (hp1 V1 _) hx2 | exact blk_in (W := ((V1.alloc (.cells #[.int .i64 0, .int .i64 0] 133)).alloc (.cells #[.int .i64 0, .int .i64 0] 133)).drew) (hp21 V1 _ _) hx2 | exact blk_in (W := (V1.alloc (.cells #[.int .i64 0, .int .i64 0] 133)).alloc (.cells #[.int .i64 0, .int .i64 0] 133)) (hp21 V1 _ _) hx2)); (try have z21 := Lib.hid (show V2.heap[V1.heap.size + 1]? = some (.cells #[.int .i64 0, .int .i64 0] 133) by first | exact blk_in (W := ((World.drew V1).alloc (.cells #[.int .i64 0, .int .i64 0] 133)).alloc (.cells #[.int .i64 0, .int .i64 0] 133)) (hp2 (World.drew V1) _ _) hx2 | exact blk_in (W := ((V1.alloc (.cells #[.int .i64 0, .int .i64 0] 133)).alloc (.cells #[.int .i64 0, .int .i64 0] 133)).drew) (hp2 V1 _ _) hx2 | exact blk_in (W := (V1.alloc (.cells #[.int .i64 0, .int .i64 0] 133)).alloc (.cells #[.int .i64 0, .int .i64 0] 133)) (hp2 V1 _ _) hx2)); (try (have t2 := lt_of (blk_in (g := V1.heap.size) (o := (.cells #[.int .i64 0, .int .i64 0] 133)) z20.out (Below.refl _ _)))); (try (have u2 := lt_of (blk_in (g := V1.heap.size + 1) (o := (.cells #[.int .i64 0, .int .i64 0] 133)) z21.out (Below.refl _ _)))); have Q2 := Lib.hid (blk_in X1.out HB12.out); obtain ⟨f20, f21, f22, f23, f24⟩ := cells5 Q2.out; have fl2 := lt_of Q2.out; clear hx2) | (go_at_call 112; (with_reducible refine (isrc_any x0 x1 x2 x3 _ _).mono ?_); rintro e V1 ⟨rfl, hx1⟩; have HP1 := Lib.hid ((show Below W1.heap.size W1 _ by exact (by first | with_reducible exact Below.refl _ _ | with_reducible exact (Below.refl _ _).drew | with_reducible exact ((Below.refl _ _).al _).drew | with_reducible exact (((Below.refl _ _).al _).al _).drew | with_reducible exact (Below.refl _ _).al _ | with_reducible exact ((Below.refl _ _).al _).al _ | with_reducible exact (Below.refl _ _).drew.al _ | with_reducible exact ((Below.refl _ _).drew.al _).al _)).trans (hx1.mono (by simp <;> omega))); have HB11 := HP1; have s1 : W1.heap.size ≤ V1.heap.size := HP1.out.size; (try have z10 := Lib.hid (show V1.heap[W1.heap.size]? = some (.cells #[.int .i64 0, .int .i64 0] 133) by first | exact blk_in (W := (World.drew W1).alloc (.cells #[.int .i64 0, .int .i64 0] 133)) (hp1 (World.drew W1) _) hx1 | exact blk_in (W := ((World.drew W1).alloc (.cells #[.int .i64 0, .int .i64 0] 133)).alloc (.cells #[.int .i64 0, .int .i64 0] 133)) (hp21 (World.drew W1) _ _) hx1 | exact blk_in (W := (W1.alloc (.cells #[.int .i64 0, .int .i64 0] 133)).drew) (hp1 W1 _) hx1 | exact blk_in (W := W1.alloc (.cells #[.int .i64 0, .int .i64 0] 133)) (hp1 W1 _) hx1 | exact blk_in (W := ((W1.alloc (.cells #[.int .i64 0, .int .i64 0] 133)).alloc (.cells #[.int .i64 0, .int .i64 0] 133)).drew) (hp21 W1 _ _) hx1 | exact blk_in (W := (W1.alloc (.cells #[.int .i64 0, .int .i64 0] 133)).alloc (.cells #[.int .i64 0, .int .i64 0] 133)) (hp21 W1 _ _) hx1)); (try have z11 := Lib.hid (show V1.heap[W1.heap.size + 1]? = some (.cells #[.int .i64 0, .int .i64 0] 133) by first | exact blk_in (W := ((World.drew W1).alloc (.cells #[.int .i64 0, .int .i64 0] 133)).alloc (.cells #[.int .i64 0, .int .i64 0] 133)) (hp2 (World.drew W1) _ _) hx1 | exact blk_in (W := ((W1.alloc (.cells #[.int .i64 0, .int .i64 0] 133)).alloc (.cells #[.int .i64 0, .int .i64 0] 133)).drew) (hp2 W1 _ _) hx1 | exact blk_in (W := (W1.alloc (.cells #[.int .i64 0, .int .i64 0] 133)).alloc (.cells #[.int .i64 0, .int .i64 0] 133)) (hp2 W1 _ _) hx1)); (try (have t1 := lt_of (blk_in (g := W1.heap.size) (o := (.cells #[.int .i64 0, .int .i64 0] 133)) z10.out (Below.refl _ _)))); (try (have u1 := lt_of (blk_in (g := W1.heap.size + 1) (o := (.cells #[.int .i64 0, .int .i64 0] 133)) z11.out (Below.refl _ _)))); have Q1 := Lib.hid (blk_in X1.out HB11.out); obtain ⟨f10, f11, f12, f13, f14⟩ := cells5 Q1.out; have fl1 := lt_of Q1.out; clear hx1))
          all_goals (
            go_wp2_with fail
            go_meet
            case rel =>
              refine ⟨_, _, rfl, rfl, rfl, Lib.hid ⟨?_, ?_, ?_⟩, Lib.hid ?_, Lib.hid ?_, Lib.hid ?_⟩
              · first
                | assumption
                | omega
                | (simp; done)
              · first
                | omega
                | (simp; omega)
              · first
                | omega
                | (simp; omega)
              · (repeat (first | with_reducible exact z10.out | with_reducible exact z11.out | with_reducible exact z20.out | with_reducible exact z21.out | with_reducible exact z30.out | with_reducible exact z31.out | with_reducible exact z40.out | with_reducible exact z41.out | with_reducible refine set2_1 (u1 := .int .i64 0) ?_ _ | with_reducible refine set2_0 (u0 := .int .i64 0) ?_ _ | with_reducible refine setR_blkN ?_ (by first | assumption | omega) _ | exact al_at (by simp) | with_reducible refine al_keep ?_ | with_reducible refine dr_at ?_))
              · (repeat (first | with_reducible exact z10.out | with_reducible exact z11.out | with_reducible exact z20.out | with_reducible exact z21.out | with_reducible exact z30.out | with_reducible exact z31.out | with_reducible exact z40.out | with_reducible exact z41.out | with_reducible refine set2_1 (u1 := .int .i64 0) ?_ _ | with_reducible refine set2_0 (u0 := .int .i64 0) ?_ _ | with_reducible refine setR_blkN ?_ (by first | assumption | omega) _ | exact al_at (by simp) | with_reducible refine al_keep ?_ | with_reducible refine dr_at ?_))
              · (repeat (first | with_reducible exact HB14.out | with_reducible refine Below.al ?_ _ | with_reducible refine Below.setCell ?_ (by first | omega | (simp; done) | (simp; omega)) _ | with_reducible refine Below.drew ?_)))
        case rest =>
          rename World => W6
          obtain ⟨G1, G2, rfl, rfl, rfl, HGG, Y6, Z6, HC6⟩ := hcut
          clear p0 p1 p2 p3 p4 pl
          have X6 := Lib.hid (blk_in X1.out HC6.out)
          have HR6 := Lib.hid (HC1.out.trans (HC6.out.mono HC1.out.size))
          obtain ⟨p0, p1, p2, p3, p4⟩ := cells5 X6.out
          have pl := lt_of X6.out
          obtain ⟨y0, y1⟩ := cells2 Y6.out
          have yl := lt_of Y6.out
          obtain ⟨v0, v1⟩ := cells2 Z6.out
          have vl := lt_of Z6.out
          obtain ⟨F, O, hFO⟩ : ∃ F O, repE kk f (x0, x1) = (F, O) := ⟨_, _, rfl⟩
          have HRF := Lib.hid hFO
          clear hFO
          go_upto_if 42 with fail
          go_cut [27] from 27 to 79 (fun i wz => i = .int .i64 j ∧ Hid (wz.heap[G1]? = some (.cells #[.int .i64 F, .int .i64 O] 133)) ∧ Hid (wz.heap[G2]? = some (.cells #[.int .i64 (behE kk (x2, x3)).1, .int .i64 (behE kk (x2, x3)).2] 133)) ∧ Hid (Below W1.heap.size W1 wz))
          case first =>
            by_cases hq : x0 = (kk : Int)
            · have HE := Lib.hid (show (f x1).1 = F ∧ (f x1).2 = O by have q := HRF.out; rw [repE_at hq] at q; rw [show f x1 = (F, O) from q]; exact ⟨rfl, rfl⟩)
              have CM0 := fun (W : World) (hw : Below w.heap.size w W) => HCS.out W ⟨x0, x1, x2, x3, row⟩ hw HXM.out hq
              simp only [] at CM0
              rw [HE.out.1, HE.out.2] at CM0
              have CM := Lib.hid CM0
              have hq1 : (x0 == (kk : Int)) = true := by simp [hq]
              clear hq CM0
              go_wp2_with (go_at_call 185; (with_reducible refine (CM.out _ (HBW.out.trans (HR6.out.mono HBW.out.size))).mono ?_); rintro e W7 ⟨rfl, hb7⟩; have HC7 := Lib.hid (HC6.out.trans (hb7.mono HC6.out.size)); have Y7 := Lib.hid (blk_in Y6.out hb7); have Z7 := Lib.hid (blk_in Z6.out hb7); obtain ⟨q0, q1⟩ := cells2 Y7.out; have ql := lt_of Y7.out; have qz0 := fr_of Y7.out 0; have qz1 := fr_of Y7.out 1; clear hb7)
              go_meet
              case rel => exact ⟨rfl, Lib.hid (set2_all Y7.out _ _).1, Lib.hid ((set2_all Y7.out _ _).2.blk Z7.out (by have := HGG.out.1; omega)), Lib.hid ((set2_all Y7.out _ _).2.below HC7.out HC7.out.size (by have := HGG.out; omega))⟩
            · have HE := Lib.hid (show (behE kk (x0, x1)).1 = F ∧ (behE kk (x0, x1)).2 = O by have q := HRF.out; rw [repE_not hq] at q; rw [q]; exact ⟨rfl, rfl⟩)
              have hq1 : (x0 == (kk : Int)) = false := by simp [hq]
              clear hq
              go_wp2_with fail
              go_meet
              case rel =>
                have q := Y6.out
                rw [HE.out.1, HE.out.2] at q
                exact ⟨rfl, Lib.hid q, Z6, HC6⟩
          case rest =>
            rename World => W8
            obtain ⟨rfl, Y8, Z8, HC8⟩ := hcut
            clear p0 p1 p2 p3 p4 pl y0 y1 yl v0 v1 vl
            have X8 := Lib.hid (blk_in X1.out HC8.out)
            have HR8 := Lib.hid (HC1.out.trans (HC8.out.mono HC1.out.size))
            obtain ⟨p0, p1, p2, p3, p4⟩ := cells5 X8.out
            have pl := lt_of X8.out
            obtain ⟨y0, y1⟩ := cells2 Y8.out
            have yl := lt_of Y8.out
            obtain ⟨v0, v1⟩ := cells2 Z8.out
            have vl := lt_of Z8.out
            obtain ⟨T, I, hFO⟩ : ∃ F O, repE kk g (x2, x3) = (F, O) := ⟨_, _, rfl⟩
            have HRT := Lib.hid hFO
            clear hFO
            go_upto_if 50 with fail
            go_cut [27] from 27 to 79 (fun i wz => i = .int .i64 j ∧ Hid (wz.heap[G2]? = some (.cells #[.int .i64 T, .int .i64 I] 133)) ∧ Hid (wz.heap[G1]? = some (.cells #[.int .i64 F, .int .i64 O] 133)) ∧ Hid (Below W1.heap.size W1 wz))
            case first =>
              by_cases hq : x2 = (kk : Int)
              · have HE := Lib.hid (show (g x3).1 = T ∧ (g x3).2 = I by have q := HRT.out; rw [repE_at hq] at q; rw [show g x3 = (T, I) from q]; exact ⟨rfl, rfl⟩)
                have CM0 := fun (W : World) (hw : Below w.heap.size w W) => HCT.out W ⟨x0, x1, x2, x3, row⟩ hw HXM.out hq
                simp only [] at CM0
                rw [HE.out.1, HE.out.2] at CM0
                have CM := Lib.hid CM0
                have hq1 : (x2 == (kk : Int)) = true := by simp [hq]
                clear hq CM0
                go_wp2_with (go_at_call 186; (with_reducible refine (CM.out _ (HBW.out.trans (HR8.out.mono HBW.out.size))).mono ?_); rintro e W7 ⟨rfl, hb7⟩; have HC7 := Lib.hid (HC8.out.trans (hb7.mono HC8.out.size)); have Y7 := Lib.hid (blk_in Y8.out hb7); have Z7 := Lib.hid (blk_in Z8.out hb7); obtain ⟨q0, q1⟩ := cells2 Z7.out; have ql := lt_of Z7.out; have qz0 := fr_of Z7.out 0; have qz1 := fr_of Z7.out 1; clear hb7)
                go_meet
                case rel => exact ⟨rfl, Lib.hid (set2_all Z7.out _ _).1, Lib.hid ((set2_all Z7.out _ _).2.blk Y7.out (by have := HGG.out.1; omega)), Lib.hid ((set2_all Z7.out _ _).2.below HC7.out HC7.out.size (by have := HGG.out; omega))⟩
              · have HE := Lib.hid (show (behE kk (x2, x3)).1 = T ∧ (behE kk (x2, x3)).2 = I by have q := HRT.out; rw [repE_not hq] at q; rw [q]; exact ⟨rfl, rfl⟩)
                have hq1 : (x2 == (kk : Int)) = false := by simp [hq]
                clear hq
                go_wp2_with fail
                go_meet
                case rel =>
                  have q := Z8.out
                  rw [HE.out.1, HE.out.2] at q
                  exact ⟨rfl, Lib.hid q, Y8, HC8⟩
            case rest =>
              rename World => W9
              obtain ⟨rfl, Z9, Y9, HC9⟩ := hcut
              clear p0 p1 p2 p3 p4 pl y0 y1 yl v0 v1 vl
              have X9 := Lib.hid (blk_in X1.out HC9.out)
              have HR9 := Lib.hid (HC1.out.trans (HC9.out.mono HC1.out.size))
              obtain ⟨p0, p1, p2, p3, p4⟩ := cells5 X9.out
              have pl := lt_of X9.out
              obtain ⟨y0, y1⟩ := cells2 Y9.out
              have yl := lt_of Y9.out
              obtain ⟨v0, v1⟩ := cells2 Z9.out
              have vl := lt_of Z9.out
              have HREP := Lib.hid (show repL kk f g ⟨x0, x1, x2, x3, row⟩ = ⟨F, O, T, I, row⟩ by
                unfold repL
                show (⟨(repE kk f (x0, x1)).1, (repE kk f (x0, x1)).2, (repE kk g (x2, x3)).1, (repE kk g (x2, x3)).2, row⟩ : Lnk) = _
                rw [HRF.out, HRT.out])
              have B9 := Lib.hid (blk_in HS.out (by have q := HR9.out; exact q))
              have IO1 := Lib.hid (fun (W : World) => iout_any F O W)
              have IO2 := Lib.hid (fun (W : World) => iout_any T I W)
              by_cases h1 : (F, O) = outE
              · rw [decide_eq_true h1] at IO1
                by_cases h2 : (T, I) = outE
                · rw [decide_eq_true h2] at IO2
                  have HSK := Lib.hid (repLs_skip HX.out (f := f) (g := g) (k := kk) (by
                    rw [HREP.out]
                    intro q
                    exact keepB_yes q ⟨h1, h2⟩))
                  clear h1 h2
                  go_wp2_with (first | (go_at_call 130; (with_reducible refine (IO1.out _).mono ?_); rintro e W10 ⟨rfl, hb0⟩; have HB10 := Lib.hid (hb0); have X10 := Lib.hid (blk_in X9.out HB10.out); have Y10 := Lib.hid (blk_in Y9.out HB10.out); have Z10 := Lib.hid (blk_in Z9.out HB10.out); have B10 := Lib.hid (blk_in B9.out HB10.out); clear p0 p1 p2 p3 p4 pl y0 y1 yl v0 v1 vl; obtain ⟨p0, p1, p2, p3, p4⟩ := cells5 X10.out; have pl := lt_of X10.out; obtain ⟨y0, y1⟩ := cells2 Y10.out; have yl := lt_of Y10.out; obtain ⟨v0, v1⟩ := cells2 Z10.out; have vl := lt_of Z10.out; obtain ⟨b0, b1⟩ := cells2 B10.out; have bl := lt_of B10.out; have bz := fr_of B10.out 1; clear hb0) | (go_at_call 130; (with_reducible refine (IO2.out _).mono ?_); rintro e W11 ⟨rfl, hb1⟩; have HB11 := Lib.hid (HB10.out.trans (hb1.mono HB10.out.size)); have X11 := Lib.hid (blk_in X9.out HB11.out); have Y11 := Lib.hid (blk_in Y9.out HB11.out); have Z11 := Lib.hid (blk_in Z9.out HB11.out); have B11 := Lib.hid (blk_in B9.out HB11.out); clear b0 b1 bl bz p0 p1 p2 p3 p4 pl y0 y1 yl v0 v1 vl; obtain ⟨p0, p1, p2, p3, p4⟩ := cells5 X11.out; have pl := lt_of X11.out; obtain ⟨y0, y1⟩ := cells2 Y11.out; have yl := lt_of Y11.out; obtain ⟨v0, v1⟩ := cells2 Z11.out; have vl := lt_of Z11.out; obtain ⟨b0, b1⟩ := cells2 B11.out; have bl := lt_of B11.out; have bz := fr_of B11.out 1; clear hb1))
                  go_roundw
                  case rel => exact ⟨j + 1, c, oa, oc, by omega, by go_num, by omega, by rw [HSK.out]; exact HCL, Lib.hid (blk_in B9.out HB11.out), by rw [HSK.out]; exact Lib.hid (HG.out.below (HR9.out.trans (HB11.out.mono HR9.out.size))), Lib.hid (HO.out.belowHi (HR9.out.trans (HB11.out.mono HR9.out.size)))⟩
                  case measure => simp [intOf]; omega
                · rw [decide_eq_false h2] at IO2
                  have HKP := Lib.hid (repLs_keep HX.out (f := f) (g := g) (k := kk) (by
                    rw [HREP.out]
                    apply Decidable.byContradiction
                    intro q
                    exact h2 (keepB_no q).2))
                  clear h1 h2
                  rw [HREP.out] at HKP
                  obtain ⟨us, lus, hU1, hU2⟩ := HG.out
                  have HCL1 := Lib.hid (show c + 1 = (repLs kk f g (n.links.take (j + 1))).length by rw [HKP.out, List.length_append, ← HCL.out]; rfl)
                  have HLU := Lib.hid lus
                  have HU2 := Lib.hid hU2
                  rw [← HCL.out] at hU1
                  have HU0 := Lib.hid hU1
                  have HNE := Lib.hid (show some B ≠ (Value.slice oa c oc).ownBlock from fun e => by have := (World.ownsRow.lt HU0.out B e.symm).1; have := HBL.out; omega)
                  have HU9 := Lib.hid (row_below HU0.out HR9.out)
                  clear hU1 hU2 lus
                  go_wp2_with (first | (at_builtin; refine Go.wpList_append_lies _ rfl _ _ 29 rfl w5.heap.size 68 j0 (.agg #[.int .i64 0, .int .i64 0, .int .i64 0, .int .i64 0, .slice none 0 0]) 5 56 Try.underlying29 hj hy0 hy1 hy2 rfl (by decide) (.slice oa c oc) c (cellsL (repLs kk f g (n.links.take j)) us) rfl (World.ownsRow.alloc (row_below HU9.out HB11.out) _) ⟨W11.heap.size, 0, none⟩ 1 1 [.int .i64 F, .int .i64 O, .int .i64 T, .int .i64 I, .slice ua ul uc] rfl rfl (lit_cells W11 #[.int .i64 F, .int .i64 O, .int .i64 T, .int .i64 I, .slice ua ul uc] 68) (by intro u hu; simp at hu; rcases hu with rfl | rfl | rfl | rfl | rfl <;> rfl) (by omega) (by unfold maxLen; omega) (by omega) (by have := HB11.out.size; have := HR9.out.size; simp; omega) (W11.heap.size + 1) (by simp) ?_; intro g9 gc w6 hown hgrow hor hglt; have B12 := Lib.hid (grow_box B11.out hgrow HNE.out); have HOW := Lib.hid hown; have HGR := Lib.hid hgrow; obtain ⟨d0, d1'⟩ := cells2 B12.out; have dz := fr_of B12.out 1; have dl := lt_of B12.out; clear hown hgrow hor hglt) | (go_at_call 130; (with_reducible refine (IO1.out _).mono ?_); rintro e W10 ⟨rfl, hb0⟩; have HB10 := Lib.hid (hb0); have X10 := Lib.hid (blk_in X9.out HB10.out); have Y10 := Lib.hid (blk_in Y9.out HB10.out); have Z10 := Lib.hid (blk_in Z9.out HB10.out); have B10 := Lib.hid (blk_in B9.out HB10.out); clear p0 p1 p2 p3 p4 pl y0 y1 yl v0 v1 vl; obtain ⟨p0, p1, p2, p3, p4⟩ := cells5 X10.out; have pl := lt_of X10.out; obtain ⟨y0, y1⟩ := cells2 Y10.out; have yl := lt_of Y10.out; obtain ⟨v0, v1⟩ := cells2 Z10.out; have vl := lt_of Z10.out; obtain ⟨b0, b1⟩ := cells2 B10.out; have bl := lt_of B10.out; have bz := fr_of B10.out 1; clear hb0) | (go_at_call 130; (with_reducible refine (IO2.out _).mono ?_); rintro e W11 ⟨rfl, hb1⟩; have HB11 := Lib.hid (HB10.out.trans (hb1.mono HB10.out.size)); have X11 := Lib.hid (blk_in X9.out HB11.out); have Y11 := Lib.hid (blk_in Y9.out HB11.out); have Z11 := Lib.hid (blk_in Z9.out HB11.out); have B11 := Lib.hid (blk_in B9.out HB11.out); clear b0 b1 bl bz p0 p1 p2 p3 p4 pl y0 y1 yl v0 v1 vl; obtain ⟨p0, p1, p2, p3, p4⟩ := cells5 X11.out; have pl := lt_of X11.out; obtain ⟨y0, y1⟩ := cells2 Y11.out; have yl := lt_of Y11.out; obtain ⟨v0, v1⟩ := cells2 Z11.out; have vl := lt_of Z11.out; obtain ⟨b0, b1⟩ := cells2 B11.out; have bl := lt_of B11.out; have bz := fr_of B11.out 1; clear hb1))
                  go_roundw
                  case rel =>
                    have hrw := HR9.out.trans (HB11.out.mono HR9.out.size)
                    refine ⟨j + 1, c + 1, some ⟨g9, 0, none⟩, gc, by omega, by go_num, by omega, HCL1, Lib.hid (set2_1 B12.out _), Lib.hid ?_, Lib.hid ?_⟩
                    · rw [HKP.out]
                      have q := HOW.out
                      rw [HCL.out] at q
                      refine RowL.out (RowL.snoc (a := ⟨F, O, T, I, row⟩) HLU.out HU2.out ES.out (by rw [← HCL.out]; rw [← HCL.out] at q; exact q)) ((Out.refl B (B + 1) w6).setC (p := ⟨B, 1, none⟩) (Nat.le_refl _) (Nat.lt_succ_self _) _) (fun z e => .inr (by have := (World.ownsRow.lt HOW.out z e).1; have := HBL.out; omega))
                    · exact (((HO.out.belowHi hrw).al _).grownHi HGR.out (fun q e => (World.ownsRow.lt HU0.out q e).1)).setC (p := ⟨B, 1, none⟩) (Nat.le_refl _) (Nat.lt_succ_self _) _
                  case measure => simp [intOf]; omega
              · rw [decide_eq_false h1] at IO1
                have HKP := Lib.hid (repLs_keep HX.out (f := f) (g := g) (k := kk) (by
                  rw [HREP.out]
                  apply Decidable.byContradiction
                  intro q
                  exact h1 (keepB_no q).1))
                clear h1
                rw [HREP.out] at HKP
                obtain ⟨us, lus, hU1, hU2⟩ := HG.out
                have HCL1 := Lib.hid (show c + 1 = (repLs kk f g (n.links.take (j + 1))).length by rw [HKP.out, List.length_append, ← HCL.out]; rfl)
                have HLU := Lib.hid lus
                have HU2 := Lib.hid hU2
                rw [← HCL.out] at hU1
                have HU0 := Lib.hid hU1
                have HNE := Lib.hid (show some B ≠ (Value.slice oa c oc).ownBlock from fun e => by have := (World.ownsRow.lt HU0.out B e.symm).1; have := HBL.out; omega)
                have HU9 := Lib.hid (row_below HU0.out HR9.out)
                clear hU1 hU2 lus
                go_wp2_with (first | (at_builtin; refine Go.wpList_append_lies _ rfl _ _ 29 rfl w5.heap.size 68 j0 (.agg #[.int .i64 0, .int .i64 0, .int .i64 0, .int .i64 0, .slice none 0 0]) 5 56 Try.underlying29 hj hy0 hy1 hy2 rfl (by decide) (.slice oa c oc) c (cellsL (repLs kk f g (n.links.take j)) us) rfl (World.ownsRow.alloc (row_below HU9.out HB10.out) _) ⟨W10.heap.size, 0, none⟩ 1 1 [.int .i64 F, .int .i64 O, .int .i64 T, .int .i64 I, .slice ua ul uc] rfl rfl (lit_cells W10 #[.int .i64 F, .int .i64 O, .int .i64 T, .int .i64 I, .slice ua ul uc] 68) (by intro u hu; simp at hu; rcases hu with rfl | rfl | rfl | rfl | rfl <;> rfl) (by omega) (by unfold maxLen; omega) (by omega) (by have := HB10.out.size; have := HR9.out.size; simp; omega) (W10.heap.size + 1) (by simp) ?_; intro g9 gc w6 hown hgrow hor hglt; have B12 := Lib.hid (grow_box B10.out hgrow HNE.out); have HOW := Lib.hid hown; have HGR := Lib.hid hgrow; obtain ⟨d0, d1'⟩ := cells2 B12.out; have dz := fr_of B12.out 1; have dl := lt_of B12.out; clear hown hgrow hor hglt) | (go_at_call 130; (with_reducible refine (IO1.out _).mono ?_); rintro e W10 ⟨rfl, hb0⟩; have HB10 := Lib.hid (hb0); have X10 := Lib.hid (blk_in X9.out HB10.out); have Y10 := Lib.hid (blk_in Y9.out HB10.out); have Z10 := Lib.hid (blk_in Z9.out HB10.out); have B10 := Lib.hid (blk_in B9.out HB10.out); clear p0 p1 p2 p3 p4 pl y0 y1 yl v0 v1 vl; obtain ⟨p0, p1, p2, p3, p4⟩ := cells5 X10.out; have pl := lt_of X10.out; obtain ⟨y0, y1⟩ := cells2 Y10.out; have yl := lt_of Y10.out; obtain ⟨v0, v1⟩ := cells2 Z10.out; have vl := lt_of Z10.out; obtain ⟨b0, b1⟩ := cells2 B10.out; have bl := lt_of B10.out; have bz := fr_of B10.out 1; clear hb0))
                go_roundw
                case rel =>
                  have hrw := HR9.out.trans (HB10.out.mono HR9.out.size)
                  refine ⟨j + 1, c + 1, some ⟨g9, 0, none⟩, gc, by omega, by go_num, by omega, HCL1, Lib.hid (set2_1 B12.out _), Lib.hid ?_, Lib.hid ?_⟩
                  · rw [HKP.out]
                    have q := HOW.out
                    rw [HCL.out] at q
                    refine RowL.out (RowL.snoc (a := ⟨F, O, T, I, row⟩) HLU.out HU2.out ES.out (by rw [← HCL.out]; rw [← HCL.out] at q; exact q)) ((Out.refl B (B + 1) w6).setC (p := ⟨B, 1, none⟩) (Nat.le_refl _) (Nat.lt_succ_self _) _) (fun z e => .inr (by have := (World.ownsRow.lt HOW.out z e).1; have := HBL.out; omega))
                  · exact (((HO.out.belowHi hrw).al _).grownHi HGR.out (fun q e => (World.ownsRow.lt HU0.out q e).1)).setC (p := ⟨B, 1, none⟩) (Nat.le_refl _) (Nat.lt_succ_self _) _
                case measure => simp [intOf]; omega
      obtain rfl : ll = j := by omega
      have htk : n.links.take ll = n.links := List.take_of_length_le (by rw [← NL.out]; omega)
      rw [htk] at HG HCL
      clear htk
      have JW := Lib.hid (HO.out.blk J5.out (.inl (by have := HB0.out; omega)))
      have HBS := Lib.hid HS.out
      have HPR := Lib.hid (show RowP w2.heap.size w wr (.slice pA mP pC) (n.progs.eraseIdx kk) from by
        obtain ⟨us, a, b, c'⟩ := HR5.out
        refine ⟨us, a, ?_, c'⟩
        have hne := not_own b HS5.out (by decide)
        exact row_out b HO.out (fun q e => by
          by_cases hq : q < B
          · exact .inl hq
          · exact .inr (Nat.succ_le_of_lt (Nat.lt_of_le_of_ne (Nat.le_of_not_lt hq) (fun e2 => hne (by rw [e2]; exact e.symm))))))
      obtain ⟨s0, s1⟩ := cells2 HBS.out
      have sl := lt_of HBS.out
      obtain ⟨r0, r1⟩ := cells2 JW.out
      have rl := lt_of JW.out
      have rz0 := fr_of JW.out 0
      have rz1 := fr_of JW.out 1
      go_wp2_with fail
      have q := set2_all JW.out (.slice pA mP pC) (.slice oa c oc)
      refine bodyPost_ret (v := .agg #[.slice pA mP pC, .slice oa c oc]) (by simp [results, Try.results74, go_sem, r0, r1]) rfl ⟨_, _, rfl, ?_, ?_, ?_⟩
      · exact (RowP.out HPR.out q.2 (fun z e => .inr (by have := (HPR.out.lt z e).1; have := HW2.out; omega))).mono (by have := HW2.out; omega)
      · exact (RowL.out HG.out q.2 (fun z e => .inr (by have := (HG.out.lt z e).1; have := HBL.out; have := HB0.out; omega))).mono (by have := HB5.out.size; omega)
      · exact q.2.below HBW.out HBW.out.size (by omega)
end Go.Proofs.Ytkeoefbkeommhaa
