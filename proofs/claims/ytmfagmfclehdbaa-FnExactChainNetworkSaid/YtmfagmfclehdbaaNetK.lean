/-
  ChainNetwork of the model. No statement of the seat is proved here.
-/
import Derived.Test.YtmfagmfclehdbaaNetJ
import Derived.Deep.CutRange
namespace Go.Proofs.Ytmfagmfclehdbaa
open Go.RowKit

theorem rows_apart {lo lo2 T T2 sz sz2 n n2 : Nat} {w : World} {v v2 : Value} {L L2 : List Value} (h : w.ownsRow lo T sz v n L) (h2 : w.ownsRow lo2 T2 sz2 v2 n2 L2) (hT : T ≠ T2) : v.ownBlock = none ∨ v.ownBlock ≠ v2.ownBlock := by
  cases e : v.ownBlock with
  | none => exact .inl rfl
  | some q =>
    right
    intro e2
    obtain ⟨c1, f1, k1⟩ := row_typed h q e
    obtain ⟨c2, f2, k2⟩ := row_typed h2 q e2.symm
    rw [k1] at k2
    simp at k2
    exact hT k2.2.1
theorem GrowP.row {lo lo2 T sz k n : Nat} {w w' : World} {o v : Value} {xs : List Prg} {L : List Value} (h : GrowP lo k w o xs) (hr : w.ownsRow lo2 T sz v n L) (h1 : T ≠ 151) (h2 : T ≠ 65) (hg : w.grownBy w' v.ownBlock) : GrowP lo k w' o xs := by
  obtain ⟨us, l1, l2, hw, hF⟩ := h
  exact ⟨us, l1, l2, hw.kept hg (rows_apart hw hr (Ne.symm h2)), ⟨hF.len, fun i u xs a b => own_grownNI (hF.own i u xs a b) hr h1 hg, hF.apart⟩⟩
theorem GrowP.outT {lo k T1 T2 l2 h2 : Nat} {w w' : World} {o : Value} {xs : List Prg} (h : GrowP lo k w o xs) (ho : OutT T1 T2 l2 h2 w w') (n1 : 65 ≠ T1) (n2 : 65 ≠ T2) (n3 : 151 ≠ T1) (n4 : 151 ≠ T2) : GrowP lo k w' o xs := by
  obtain ⟨us, l1, l2, hw, hF⟩ := h
  exact ⟨us, l1, l2, row_outT hw ho n1 n2, ⟨hF.len, fun i u xs a b => row_outT (hF.own i u xs a b) ho n3 n4, hF.apart⟩⟩
theorem cellC_put (u u' : Value) (ts : List Int) : ∀ k, (cellC u ts (k + 1)).set 4 u' = cellC u' ts (k + 1)
  | 0 => rfl
  | k + 1 => by
    rw [cellC_succ u ts (k + 1), cellC_succ u' ts (k + 1), if_neg (by omega), if_neg (by omega), List.set_append_left _ _ (by rw [cellC_len]; omega), cellC_put u u' ts k]
theorem cellC_put' (u u' : Value) (ts : List Int) {m : Nat} (hm : m ≠ 0) : (cellC u ts m).set 4 u' = cellC u' ts m := by
  obtain ⟨k, rfl⟩ : ∃ k, m = k + 1 := ⟨m - 1, by omega⟩
  exact cellC_put u u' ts k
theorem cellC_ts (u : Value) (ts ts' : List Int) : ∀ k, cellC u ts k = cellC u ts' k
  | 0 => rfl
  | k + 1 => by rw [cellC_succ, cellC_succ, cellC_ts u ts ts' k]
/-- The tokens of the chain's links. -/
theorem chain_fam {lo m : Nat} {w : World} {u : Value} {ts : List Int} (h : Own lo w u ts) : Fam lo w (usC u (m + 1)) ((chL m ts).map Lnk.tok) := by
  refine ⟨by rw [usC_len, List.length_map, chL_len], fun i x xs hx hp => ?_, fun i j x y hx hy hij => ?_⟩
  · rw [List.getElem?_map] at hp
    obtain ⟨l, hl, rfl⟩ := Option.map_eq_some_iff.1 hp
    rw [usC_at u _ i x hx, chL_tok hl]
    by_cases e : i = 0
    · rw [if_pos e, if_pos e]; exact h
    · rw [if_neg e, if_neg e]; exact World.ownsRow_nil _ _ _ _
  · have ex := usC_at u _ i x hx
    have ey := usC_at u _ j y hy
    by_cases e : i = 0
    · rw [if_neg (by omega)] at ey
      subst ey
      unfold Apart
      cases hq : x.ownBlock with
      | none => exact .inl rfl
      | some q => exact .inr (by intro e3; cases e3)
    · rw [if_neg e] at ex
      subst ex
      exact .inl rfl

set_option maxRecDepth 100000 in
set_option maxHeartbeats 16000000 in
theorem schain_any (v : Value) (ps : List Prg) (u : Value) (ts : List Int) (w : World) (h : SlP w v ps) (hu : Sl w u ts) (hps : ps.length ≤ 1048576) (hcs : ∀ p ∈ ps, p.code.length ≤ 1048576) (hts : ts.length ≤ 1048576) :
    Calls Try.prog 32 #[v, u] w fun e w' => ∃ r, e = .returned (.tuple #[r, .bool (chainB ps ts)]) ∧ NetR w.heap.size w'.heap.size w' r (chainNetworkR0 ps ts) ∧ Below w.heap.size w w' := by
  have HP := Lib.hid h
  have HU := Lib.hid hu
  have HCS := Lib.hid hcs
  obtain ⟨pa, pcap, rfl⟩ := h.shape
  obtain ⟨ta, tcap, rfl⟩ := hu.shape
  obtain ⟨m, hm⟩ : ∃ m, m = ps.length := ⟨_, rfl⟩
  obtain ⟨tl, htl⟩ : ∃ m, m = ts.length := ⟨_, rfl⟩
  rw [← hm] at HP hps ⊢
  rw [← htl] at HU hts ⊢
  have NP := Lib.hid hm
  have NT := Lib.hid htl
  clear h hu hm htl hcs
  obtain ⟨R0, hR0⟩ : ∃ R, R = chainNetworkR0 ps ts := ⟨_, rfl⟩
  obtain ⟨R1, hR1⟩ : ∃ R, R = chainB ps ts := ⟨_, rfl⟩
  rw [← hR0, ← hR1]
  have HR0 := Lib.hid hR0
  have HR1 := Lib.hid hR1
  have HNO := Lib.hid (show chainB ps ts = false → R1 = false ∧ R0 = ⟨[], []⟩ from fun e => ⟨hR1.trans e, hR0.trans (chain_no e)⟩)
  clear hR0 hR1
  obtain ⟨i0, hi, hz0, hz1, hz2⟩ := infoP_parts
  obtain ⟨j0, hj, hy0, hy1, hy2⟩ := infoL_parts
  go_enter Try.func32, Try.ntmps32
  go_upto_region 1 with fail
  generalize hW : w.alloc (.cells #[.slice none 0 0, .slice none 0 0] 35) = w1
  have HW1 := Lib.hid (show w.heap.size + 1 = w1.heap.size by rw [← hW]; simp)
  have hJ1 := Lib.hid (show w1.heap[w.heap.size]? = some (.cells #[.slice none 0 0, .slice none 0 0] 35) by rw [← hW]; exact hp1 _ _)
  have hb1 := Lib.hid (show Below w.heap.size w w1 by rw [← hW]; exact (Below.refl _ _).al _)
  clear hW
  go_wp2_with fail
  generalize hW : w1.alloc (.cells #[.slice none 0 0, .slice none 0 0] 35) = w2
  have HC2 := Lib.hid (show Below w1.heap.size w1 w2 by rw [← hW]; exact (Below.refl _ _).al _)
  obtain ⟨B, hB⟩ : ∃ B, B = w1.heap.size := ⟨_, rfl⟩
  have HS2 := Lib.hid (show w2.heap[B]? = some (.cells #[.slice none 0 0, .slice none 0 0] 35) by rw [← hW, hB]; exact hp1 _ _)
  rw [← hB]
  have HB0 := Lib.hid (show w.heap.size + 1 = B by rw [hB]; exact HW1.out)
  clear hW hB
  have HB2 := Lib.hid (hb1.out.trans (HC2.out.mono hb1.out.size))
  have J2 := Lib.hid (blk_in hJ1.out HC2.out)
  have HBL := Lib.hid (lt_of HS2.out)
  go_loopw [12] (fun i wr => ∃ (k : Nat) (oa : Option Addr) (oc : Nat) (la : Option Addr) (lc : Nat), k ≤ m ∧ i = .int .i64 k ∧ Hid (wr.heap[B]? = some (.cells #[.slice oa k oc, .slice la k lc] 35)) ∧ Hid (GrowP w2.heap.size k wr (.slice oa k oc) ps) ∧ Hid (wr.ownsRow w2.heap.size 86 5 (.slice la k lc) k (cellC (.slice none 0 0) ts k)) ∧ Hid (Out B (B + 1) w2 wr)) (fun i _ => m - (intOf i).toNat)
  case atStart => exact ⟨0, none, 0, none, 0, Nat.zero_le _, rfl, HS2, Lib.hid (GrowP.nil _ _ _), Lib.hid (World.ownsRow_nil _ _ _ _), Lib.hid (Out.refl _ _ _)⟩
  case round =>
    obtain ⟨k, oa, oc, la, lc, hk, rfl, HS, HG, HL, HO⟩ := hrel
    have HBW := Lib.hid (HO.out.below HB2.out HB2.out.size (by have := HB0.out; omega))
    have JW := Lib.hid (HO.out.blk J2.out (.inl (by have := HB0.out; omega)))
    by_cases hlt : k < m
    case pos =>
      obtain ⟨x, hx⟩ : ∃ x, ps[k]? = some x := ⟨_, List.getElem?_eq_getElem (by rw [← NP.out]; exact hlt)⟩
      obtain ⟨gb, go, pcv, rfl, hgb, e0, e1, e2, es⟩ := (HP.out.below HBW.out).atb hx
      have HX := Lib.hid hx
      have HLB := Lib.hid (HCS.out x (List.mem_of_getElem? hx))
      clear hx
      have ES := Lib.hid es
      obtain ⟨x0, x1, row⟩ := x
      simp only [] at e0 e1 e2 ES HLB
      obtain ⟨ua, uc, rfl⟩ := es.shape
      have CA0 := fun (W : World) (hw : Below wr.heap.size wr W) => sl3prog_any 1 1 (.slice ua row.length uc) row W (ES.out.below hw) (by have := HLB.out; omega)
      obtain ⟨ul, hul⟩ : ∃ q, q = row.length := ⟨_, rfl⟩
      rw [← hul] at e2 CA0
      clear hul es ES
      by_cases hone : x0 = 1 ∧ x1 = 1
      case neg =>
        have hno : chainB ps ts = false := by
          cases hc : chainB ps ts with
          | false => rfl
          | true => exact absurd ((chain_ports hc).2 k _ HX.out) hone
        obtain ⟨rfl, rfl⟩ := HNO.out hno
        clear hno CA0
        have hbx := Lib.hid (blk_in JW.out ((Below.refl wr.heap.size wr).al (.cells #[.int .i64 x0, .int .i64 x1, .slice ua ul uc] 65)))
        have HBX := Lib.hid (HBW.out.al (.cells #[.int .i64 x0, .int .i64 x1, .slice ua ul uc] 65))
        obtain ⟨r0, r1⟩ := cells2 hbx.out
        have rl := lt_of hbx.out
        have rz0 := fr_of hbx.out 0
        have rz1 := fr_of hbx.out 1
        by_cases h0 : x0 = 1
        · have h1 : ¬ x1 = 1 := fun e => hone ⟨h0, e⟩
          subst h0
          have d1 : (x1 == (1 : Int)) = false := by simpa using h1
          have d2 : (x1 != (1 : Int)) = true := by simpa using h1
          clear h1 hone
          go_wp2_with fail
          refine bodyPost_ret (v := .tuple #[.agg #[.slice none 0 0, .slice none 0 0], .bool false]) (by simp [results, Try.results32, go_sem, r0, r1]) rfl ⟨_, rfl, netR_nil _ _ _, ?_⟩
          first | exact HBX.out | exact (HBX.out.setCell (by simp) _).setCell (by simp) _
        · have d1 : (x0 == (1 : Int)) = false := by simpa using h0
          have d2 : (x0 != (1 : Int)) = true := by simpa using h0
          clear h0 hone
          go_wp2_with fail
          refine bodyPost_ret (v := .tuple #[.agg #[.slice none 0 0, .slice none 0 0], .bool false]) (by simp [results, Try.results32, go_sem, r0, r1]) rfl ⟨_, rfl, netR_nil _ _ _, ?_⟩
          first | exact HBX.out | exact (HBX.out.setCell (by simp) _).setCell (by simp) _
      case pos =>
        obtain ⟨rfl, rfl⟩ := hone
        obtain ⟨us, lus, ltk, hU1, hU2⟩ := HG.out
        have HU0 := Lib.hid hU1
        have HU2 := Lib.hid hU2
        have HUB := Lib.hid (show ∀ u q, u ∈ us → u.ownBlock = some q → q < wr.heap.size from fun u q hu he => fam_hiI hU2 u hu q he)
        have HNE := Lib.hid (show some B ≠ (Value.slice oa k oc).ownBlock from fun e => by have := (World.ownsRow.lt HU0.out B e.symm).1; have := HBL.out; omega)
        have HNL := Lib.hid (show some B ≠ (Value.slice la k lc).ownBlock from fun e => by have := (World.ownsRow.lt HL.out B e.symm).1; have := HBL.out; omega)
        clear hU1 hU2 ltk
        have hz1w : w2.heap.size ≤ wr.heap.size := HO.out.size
        go_upto_region 7 with fail
        generalize hW : wr.alloc (.cells #[.int .i64 1, .int .i64 1, .slice ua ul uc] 65) = W1
        have HC1 := Lib.hid (show Below wr.heap.size wr W1 by rw [← hW]; exact (Below.refl _ _).al _)
        obtain ⟨p0, p1, p2⟩ := cells3 (show W1.heap[wr.heap.size]? = _ by rw [← hW]; exact hp1 _ _)
        have pl := lt_of (show W1.heap[wr.heap.size]? = _ by rw [← hW]; exact hp1 _ _)
        clear hW
        have B1 := Lib.hid (blk_in HS.out HC1.out)
        have HU1 := Lib.hid (row_below HU0.out HC1.out)
        have HL1 := Lib.hid (row_below HL.out HC1.out)
        obtain ⟨b0, b1⟩ := cells2 B1.out
        have bl := lt_of B1.out
        have bz := fr_of B1.out 0
        have hz1' : w2.heap.size ≤ W1.heap.size := Nat.le_trans hz1w HC1.out.size
        have CA := Lib.hid (fun (W : World) (hw : Below W1.heap.size W1 W) => CA0 W (HC1.out.trans (hw.mono HC1.out.size)))
        clear CA0
        go_cut [12] from 12 to 42 (fun i wz => ∃ (oa' : Option Addr) (oc' : Nat), i = .int .i64 k ∧ Hid (wz.heap[B]? = some (.cells #[.slice oa' (k + 1) oc', .slice la k lc] 35)) ∧ Hid (GrowP w2.heap.size (k + 1) wz (.slice oa' (k + 1) oc') ps) ∧ Hid (wz.ownsRow w2.heap.size 86 5 (.slice la k lc) k (cellC (.slice none 0 0) ts k)) ∧ Hid (Out B (B + 1) w2 wz))
        case first =>
          go_region_law (first | (refine Go.step_append_lies _ rfl (.tmp 27) (.tmp 30) 32 rfl w2.heap.size 65 i0 (.agg #[.int .i64 0, .int .i64 0, .slice none 0 0]) 3 40 Try.underlying32 hi hz0 hz1 hz2 rfl (by decide) (.slice oa k oc) k (cellsP (ps.take k) us) rfl (World.ownsRow.alloc (row_below HU1.out hs5.out) _) ⟨W5.heap.size, 0, none⟩ 1 1 [.int .i64 1, .int .i64 1, .slice xa row.length xc] rfl rfl (lit_cells W5 #[.int .i64 1, .int .i64 1, .slice xa row.length xc] 65) (by intro u hu; simp at hu; rcases hu with rfl | rfl | rfl <;> rfl) (by omega) (by unfold maxLen; omega) (by omega) (by have := hz5; simp; omega) (W5.heap.size + 1) (by simp) ?_; intro g gc w6 hown hgrow hor hglt; have BB := grow_box B5.out hgrow HNE.out; obtain ⟨d0, d1⟩ := cells2 BB; have dz := fr_of BB 0; have dl := lt_of BB; have HOW := Lib.hid hown; have HGR := Lib.hid hgrow; have HB6 := Lib.hid BB; clear hown hgrow hor hglt BB) | (go_simp; go_at_call 76; refine (CA.out _ (by first | with_reducible exact Below.refl _ _ | with_reducible exact (Below.refl _ _).drew)).mono ?_; rintro e W5 ⟨c5, rfl, o5, hb5⟩; have hs5 := Lib.hid (show Below W1.heap.size W1 W5 by first | with_reducible exact hb5 | with_reducible exact cr_d hb5); have O5 := Lib.hid (OwnI.mono (lo' := W1.heap.size) o5 (by first | exact Nat.le_refl _ | simp)); have hz5 : w2.heap.size ≤ W5.heap.size := Nat.le_trans hz1' hs5.out.size; have B5 := Lib.hid (blk_in B1.out hs5.out); obtain ⟨y0, y1⟩ := cells2 B5.out; have yz := fr_of B5.out 0; have yl := lt_of B5.out; obtain ⟨xa, xc, rfl⟩ := O5.out.shape; clear o5 hb5))
          all_goals (
            go_wp2_with fail
            go_meet
            case rel =>
              refine ⟨some ⟨g, 0, none⟩, gc, rfl, Lib.hid (set2_0 HB6.out _), Lib.hid ?_, Lib.hid ?_, Lib.hid ?_⟩
              · have F5 := HU2.out.below (HC1.out.trans (hs5.out.mono HC1.out.size))
                have S := GrowP.step (a := ⟨1, 1, row⟩) (w3 := W5.alloc (.cells #[.int .i64 1, .int .i64 1, .slice xa row.length xc] 65)) lus (World.ownsRow.alloc (row_below HU1.out hs5.out) _) (F5.below ((Below.refl _ _).al _)) (O5.out.below ((Below.refl _ _).al _)) (fun u q hu he => Nat.lt_of_lt_of_le (HUB.out u q hu he) HC1.out.size) hz1' HX.out HOW.out HGR.out
                exact S.out ((Out.refl B (B + 1) w6).setC (p := ⟨B, 0, none⟩) (Nat.le_refl _) (Nat.lt_succ_self _) _) HBL.out
              · have L5 := World.ownsRow.alloc (row_below HL1.out hs5.out) (.cells #[.int .i64 1, .int .i64 1, .slice xa row.length xc] 65)
                have L6 := L5.kept HGR.out (rows_apart L5 (World.ownsRow.alloc (row_below HU1.out hs5.out) _) (by decide))
                exact row_out L6 ((Out.refl B (B + 1) w6).setC (p := ⟨B, 0, none⟩) (Nat.le_refl _) (Nat.lt_succ_self _) _) (fun q e => .inr (by have := (World.ownsRow.lt L6 q e).1; have := HBL.out; omega))
              · exact ((((HO.out.belowHi HC1.out).belowHi hs5.out).al _).grownHi HGR.out (fun q e => (World.ownsRow.lt HU1.out q e).1)).setC (p := ⟨B, 0, none⟩) (Nat.le_refl _) (Nat.lt_succ_self _) _)
        rename World => w8
        obtain ⟨oa', oc', rfl, HS8, HG8, HL8, HO8⟩ := hcut
        clear b0 b1 bl bz p0 p1 p2 pl
        obtain ⟨b0, b1⟩ := cells2 HS8.out
        have bl := lt_of HS8.out
        have bz := fr_of HS8.out 1
        have hwk : wrap64 ((k : Int) - 1) = (k : Int) - 1 := IntWalk.wrap64_in _ (by omega)
        go_wp2_with (at_builtin; refine Go.wpList_append_lies _ rfl _ _ 33 rfl w2.heap.size 86 j0 (.agg #[.int .i64 0, .int .i64 0, .int .i64 0, .int .i64 0, .slice none 0 0]) 5 56 Try.underlying33 hj hy0 hy1 hy2 rfl (by decide) (.slice la k lc) k (cellC (.slice none 0 0) ts k) rfl (World.ownsRow.alloc HL8.out _) ⟨w8.heap.size, 0, none⟩ 1 1 [.int .i64 ((k : Int) - 1), .int .i64 0, .int .i64 (k : Int), .int .i64 0, .slice none 0 0] rfl rfl (lit_cells w8 #[.int .i64 ((k : Int) - 1), .int .i64 0, .int .i64 (k : Int), .int .i64 0, .slice none 0 0] 86) (by intro u hu; simp at hu; rcases hu with rfl | rfl | rfl | rfl | rfl <;> rfl) (by omega) (by unfold maxLen; omega) (by omega) (by simp; exact Nat.le_trans HO8.out.size (Nat.le_succ _)) (w8.heap.size + 1) (by simp) ?_; intro g gc w9 hown hgrow hor hglt; have B9 := Lib.hid (grow_box HS8.out hgrow HNL.out); have HOW := Lib.hid hown; have HGR := Lib.hid hgrow; obtain ⟨d0, d1⟩ := cells2 B9.out; have dz := fr_of B9.out 1; have dl := lt_of B9.out; clear hown hgrow hor hglt)
        go_roundw
        case rel =>
          refine ⟨k + 1, oa', oc', some ⟨g, 0, none⟩, gc, by omega, by go_num, Lib.hid (set2_1 B9.out _), Lib.hid ?_, Lib.hid ?_, Lib.hid ?_⟩
          · have G9 := (HG8.out.below ((Below.refl _ _).al _)).row (World.ownsRow.alloc HL8.out _) (by decide) (by decide) HGR.out
            exact G9.out ((Out.refl B (B + 1) w9).setC (p := ⟨B, 1, none⟩) (Nat.le_refl _) (Nat.lt_succ_self _) _) HBL.out
          · have L9 : w9.ownsRow w2.heap.size 86 5 (.slice (some ⟨g, 0, none⟩) (k + 1) gc) (k + 1) (cellC (.slice none 0 0) ts (k + 1)) := by
              rw [cellC_succ, ite_self]; exact HOW.out
            exact row_out L9 ((Out.refl B (B + 1) w9).setC (p := ⟨B, 1, none⟩) (Nat.le_refl _) (Nat.lt_succ_self _) _) (fun q e => .inr (by have := (World.ownsRow.lt L9 q e).1; have := HBL.out; omega))
          · exact ((HO8.out.al _).grownHi HGR.out (fun q e => (World.ownsRow.lt HL8.out q e).1)).setC (p := ⟨B, 1, none⟩) (Nat.le_refl _) (Nat.lt_succ_self _) _
        case measure => simp [intOf]; omega
    obtain rfl : m = k := by omega
    obtain ⟨r0, r1⟩ := cells2 JW.out
    have rl := lt_of JW.out
    have rz0 := fr_of JW.out 0
    have rz1 := fr_of JW.out 1
    by_cases hm0 : m = 0
    case pos =>
      have hno : chainB ps ts = false := by
        cases hc : chainB ps ts with
        | false => rfl
        | true => exact absurd (NP.out.symm.trans hm0) (chain_ports hc).1
      obtain ⟨rfl, rfl⟩ := HNO.out hno
      clear hno
      have d1 : ((m : Int) == 0) = true := by simpa using hm0
      go_wp2_with fail
      refine bodyPost_ret (v := .tuple #[.agg #[.slice none 0 0, .slice none 0 0], .bool false]) (by simp [results, Try.results32, go_sem, r0, r1]) rfl ⟨_, rfl, netR_nil _ _ _, ?_⟩
      first | exact HBW.out | exact (HBW.out.setCell (by simp) _).setCell (by simp) _
    case neg =>
      have d1 : ((m : Int) == 0) = false := by simpa using hm0
      obtain ⟨LB, c2, hve⟩ : ∃ LB c2, (Value.slice la m lc) = .slice (some ⟨LB, 0, none⟩) m c2 := by
        rcases HL.out.2 with ⟨_, e⟩ | ⟨g, cap, cur, e, _⟩
        · exact absurd e hm0
        · exact ⟨g, cap, e⟩
      simp only [Value.slice.injEq, true_and] at hve
      obtain ⟨rfl, rfl⟩ := hve
      have LBl := World.ownsRow.lt HL.out LB rfl
      have c4' : ∃ y, wr.cell? ⟨LB, 4, none⟩ = some y := by
        rw [HL.out.cellAt 4 (by omega), List.getElem?_eq_getElem (by rw [cellC_len]; omega)]; exact ⟨_, rfl⟩
      obtain ⟨y4, cy4⟩ := c4'
      have f4 := HL.out.frozenAt 4
      have c4 := (HL.out.cellAt 4 (by omega)).symm.trans cy4
      have hLBB : LB ≠ B := by have := HBL.out; omega
      have hBLB : B ≠ LB := Ne.symm hLBB
      have hJB : w.heap.size ≠ B := by have := HB0.out; omega
      have hJLB : w.heap.size ≠ LB := by have := HBL.out; have := HB0.out; omega
      have CU := Lib.hid (fun (W : World) (hw : Below wr.heap.size wr W) => l1copy_any (.slice ta tl tcap) ts W (HU.out.below (HBW.out.trans (hw.mono HBW.out.size))) (by have := NT.out; omega))
      clear r0 r1 rl rz0 rz1
      obtain ⟨b0, b1⟩ := cells2 HS.out
      have bl := lt_of HS.out
      have im1 : (0 : Int) < (m : Int) := by omega
      have im2 : 0 < m := by omega
      go_upto_region 12 with fail
      go_cut [6] from 47 (fun s6 wz => ∃ (xa : Option Addr) (xc : Nat), s6 = .pointer (some ⟨B, 0, none⟩) ∧ Hid (Own w2.heap.size wz (.slice xa ts.length xc) ts) ∧ Hid (wz.ownsRow w2.heap.size 86 5 (.slice (some ⟨LB, 0, none⟩) m lc) m (cellC (.slice xa ts.length xc) ts m)) ∧ Hid (wz.heap[B]? = some (.cells #[.slice oa m oc, .slice (some ⟨LB, 0, none⟩) m lc] 35)) ∧ Hid (wz.heap[w.heap.size]? = some (.cells #[.slice none 0 0, .slice none 0 0] 35)) ∧ Hid (GrowP w2.heap.size m wz (.slice oa m oc) ps) ∧ Hid (Below w.heap.size w wz) ∧ Hid (w2.heap.size ≤ wz.heap.size))
      case first =>
        go_region_held3 (fun w' => w'.cell? ⟨B, 1, none⟩ = some (.slice (some ⟨LB, 0, none⟩) m lc)) (go_keep) (first | (go_at_call 77; refine (CU.out _ (by first | with_reducible exact Below.refl _ _ | with_reducible exact (Below.refl _ _).drew)).mono ?_; rintro e W5 ⟨c5, rfl, o5, hb5⟩; have hs5 := Lib.hid (show Below wr.heap.size wr W5 by first | with_reducible exact hb5 | with_reducible exact cr_d hb5); have O5 := Lib.hid (Own.mono (lo' := wr.heap.size) o5 (by first | exact Nat.le_refl _ | simp)); have B5 := Lib.hid (blk_in HS.out hs5.out); have R5 := Lib.hid (row_below HL.out hs5.out); obtain ⟨y0, y1⟩ := cells2 B5.out; have yl := lt_of B5.out; have t4 := (R5.out.cellAt 4 (by omega)).trans c4; have g4 := R5.out.frozenAt 4; obtain ⟨xa5, xc5, rfl⟩ := O5.out.shape; clear o5 hb5))
        all_goals (
          go_wp2_with fail
          go_meet
          case rel =>
            refine ⟨xa5, xc5, rfl, Lib.hid ?_, Lib.hid ?_, Lib.hid (setR_blkN B5.out hBLB _), Lib.hid (setR_blkN (blk_in JW.out hs5.out) hJLB _), Lib.hid ?_, Lib.hid ?_, Lib.hid ?_⟩
            · have q : Own wr.heap.size (W5.setCell ⟨LB, 4, none⟩ (.slice xa5 ts.length xc5)) (.slice xa5 ts.length xc5) ts := row_out O5.out ((Out.refl LB (LB + 1) W5).setC (p := ⟨LB, 4, none⟩) (Nat.le_refl _) (Nat.lt_succ_self _) _) (fun q e => .inr (by have := (O5.out.lt q e).1; omega))
              exact q.mono HO.out.size
            · have q := (R5.out.stored 4 (.slice xa5 ts.length xc5)).1
              rw [cellC_put' _ _ _ hm0] at q
              exact q
            · exact (HG.out.below hs5.out).outT ((OutT.refl 86 86 LB (LB + 1) W5).setC (p := ⟨LB, 4, none⟩) (Nat.le_refl _) (Nat.lt_succ_self _) (row_typed R5.out LB rfl) _) (by decide) (by decide) (by decide) (by decide)
            · exact (HBW.out.trans (hs5.out.mono HBW.out.size)).setCell (p := ⟨LB, 4, none⟩) (Nat.le_trans HB2.out.size LBl.1) _
            · rw [World.size_setCell]; exact Nat.le_trans HO.out.size hs5.out.size)
      rename World => w8
      obtain ⟨xa, xc, rfl, HOT, HL8, HS8, J8, HG8, HB8, HZ8⟩ := hcut
      clear b0 b1 bl cy4 f4 c4 LBl
      obtain ⟨b0, b1⟩ := cells2 HS8.out
      have bl := lt_of HS8.out
      have bz := fr_of HS8.out 1
      have HNL := Lib.hid (show some B ≠ (Value.slice (some ⟨LB, 0, none⟩) m lc).ownBlock from fun e => hBLB (Option.some.inj e))
      have HNJ := Lib.hid (show some w.heap.size ≠ (Value.slice (some ⟨LB, 0, none⟩) m lc).ownBlock from fun e => hJLB (Option.some.inj e))
      have hwm : wrap64 ((m : Int) - 1) = (m : Int) - 1 := IntWalk.wrap64_in _ (by omega)
      go_upto_region 14 with (at_builtin; refine Go.wpList_append_lies _ rfl _ _ 33 rfl w2.heap.size 86 j0 (.agg #[.int .i64 0, .int .i64 0, .int .i64 0, .int .i64 0, .slice none 0 0]) 5 56 Try.underlying33 hj hy0 hy1 hy2 rfl (by decide) (.slice (some ⟨LB, 0, none⟩) m lc) m (cellC (.slice xa ts.length xc) ts m) rfl (World.ownsRow.alloc HL8.out _) ⟨w8.heap.size, 0, none⟩ 1 1 [.int .i64 ((m : Int) - 1), .int .i64 0, .int .i64 (-1), .int .i64 0, .slice none 0 0] rfl rfl (lit_cells w8 #[.int .i64 ((m : Int) - 1), .int .i64 0, .int .i64 (-1), .int .i64 0, .slice none 0 0] 86) (by intro u hu; simp at hu; rcases hu with rfl | rfl | rfl | rfl | rfl <;> rfl) (by omega) (by unfold maxLen; omega) (by omega) (by simp; exact Nat.le_trans HZ8.out (Nat.le_succ _)) (w8.heap.size + 1) (by simp) ?_; intro g gc w9 hown hgrow hor hglt; have B9 := Lib.hid (grow_box HS8.out hgrow HNL.out); have J9 := Lib.hid (grow_box J8.out hgrow HNJ.out); have HOW := Lib.hid hown; have HGR := Lib.hid hgrow; obtain ⟨d0, d1⟩ := cells2 B9.out; have dz := fr_of B9.out 1; have dl := lt_of B9.out; clear hown hgrow hor hglt)
      generalize hW : w9.setCell ⟨B, 1, none⟩ (.slice (some ⟨g, 0, none⟩) (m + 1) gc) = W10
      have B10 := Lib.hid (show W10.heap[B]? = some (.cells #[.slice oa m oc, .slice (some ⟨g, 0, none⟩) (m + 1) gc] 35) by rw [← hW]; exact set2_1 B9.out _)
      have J10 := Lib.hid (show W10.heap[w.heap.size]? = some (.cells #[.slice none 0 0, .slice none 0 0] 35) by rw [← hW]; exact setR_blkN J9.out hJB _)
      have HB10 := Lib.hid (show Below w.heap.size w W10 by rw [← hW]; exact ((HB8.out.al _).grown HGR.out (by simp; exact Nat.le_trans HB8.out.size (Nat.le_succ _)) (fun q e => Nat.le_trans HB2.out.size (World.ownsRow.lt HL8.out q e).1)).setCell (p := ⟨B, 1, none⟩) (by have := HB0.out; show w.heap.size ≤ B; omega) _)
      have OB := (Out.refl B (B + 1) w9).setC (p := ⟨B, 1, none⟩) (Nat.le_refl _) (Nat.lt_succ_self _) (.slice (some ⟨g, 0, none⟩) (m + 1) gc)
      rw [hW] at OB
      have HG10 := Lib.hid ((((HG8.out.below ((Below.refl _ _).al _)).row (World.ownsRow.alloc HL8.out _) (by decide) (by decide) HGR.out).out OB HBL.out).done NP.out.symm)
      have L9 : w9.ownsRow w2.heap.size 86 5 (.slice (some ⟨g, 0, none⟩) (m + 1) gc) (m + 1) (cellsL (chL m ts) (usC (.slice xa ts.length xc) (m + 1))) := by
        rw [cellC_end, if_neg hm0]; exact HOW.out
      have HL10 := Lib.hid (row_out L9 OB (fun q e => .inr (by have := (World.ownsRow.lt L9 q e).1; have := HBL.out; omega)))
      have T9 : Own w2.heap.size w9 (.slice xa ts.length xc) ts := own_grownN (HOT.out.below ((Below.refl _ _).al _)) (World.ownsRow.alloc HL8.out _) (by decide) HGR.out
      have HOT10 := Lib.hid (show Own w2.heap.size W10 (.slice xa ts.length xc) ts from row_out T9 OB (fun q e => .inr (by have := (T9.lt q e).1; have := HBL.out; omega)))
      have HNR := Lib.hid (show NetR w2.heap.size W10.heap.size W10 (.agg #[.slice oa m oc, .slice (some ⟨g, 0, none⟩) (m + 1) gc]) ⟨ps, chL m ts⟩ from ⟨_, _, rfl, HG10.out, ⟨_, VL.ofRow HL10.out (chL_len _ _) (usC_len _ _), chain_fam HOT10.out, fam_hi (chain_fam HOT10.out)⟩, wf_chL (by omega)⟩)
      clear OB L9 T9 hW d0 d1 dz dl b0 b1 bl bz
      have CN := Lib.hid (fun (W : World) (hw : Below W10.heap.size W10 W) => sisnet_any (.agg #[.slice oa m oc, .slice (some ⟨g, 0, none⟩) (m + 1) gc]) ⟨ps, chL m ts⟩ W (HNR.out.v.below hw))
      obtain ⟨b0, b1⟩ := cells2 B10.out
      have bl := lt_of B10.out
      have HCB := Lib.hid (show chainB ps ts = okN ⟨ps, chL m ts⟩ by unfold chainB; rw [← NP.out])
      cases hs : okN ⟨ps, chL m ts⟩ with
      | false =>
        rw [hs] at CN
        obtain ⟨rfl, rfl⟩ := HNO.out (HCB.out.trans hs)
        clear hs
        go_wp2_with (go_at_call 53; with_reducible refine (CN.out _ (Below.refl _ _)).mono ?_; rintro e w11 ⟨rfl, hb11⟩; have HC11 := Lib.hid hb11; have HB11 := Lib.hid (HB10.out.trans (hb11.mono HB10.out.size)); have J11 := Lib.hid (blk_in J10.out hb11); have O11 := Lib.hid (blk_in B10.out hb11); obtain ⟨s0, s1⟩ := cells2 O11.out; have sl := lt_of O11.out; obtain ⟨r0, r1⟩ := cells2 J11.out; have rl := lt_of J11.out; have rz0 := fr_of J11.out 0; have rz1 := fr_of J11.out 1; clear hb11)
        refine bodyPost_ret (v := .tuple #[.agg #[.slice none 0 0, .slice none 0 0], .bool false]) (by simp [results, Try.results32, go_sem, r0, r1]) rfl ⟨_, rfl, netR_nil _ _ _, ?_⟩
        first | exact HB11.out | exact (HB11.out.setCell (by simp) _).setCell (by simp) _
      | true =>
        rw [hs] at CN
        obtain rfl := HR1.out.trans (HCB.out.trans hs)
        have HE := Lib.hid (HR0.out.trans ((chain_yes (HCB.out.trans hs)).trans (by rw [← NP.out])))
        clear hs
        go_wp2_with (go_at_call 53; with_reducible refine (CN.out _ (Below.refl _ _)).mono ?_; rintro e w11 ⟨rfl, hb11⟩; have HC11 := Lib.hid hb11; have HB11 := Lib.hid (HB10.out.trans (hb11.mono HB10.out.size)); have J11 := Lib.hid (blk_in J10.out hb11); have O11 := Lib.hid (blk_in B10.out hb11); obtain ⟨s0, s1⟩ := cells2 O11.out; have sl := lt_of O11.out; obtain ⟨r0, r1⟩ := cells2 J11.out; have rl := lt_of J11.out; have rz0 := fr_of J11.out 0; have rz1 := fr_of J11.out 1; clear hb11)
        have q := set2_all J11.out (.slice oa m oc) (.slice (some ⟨g, 0, none⟩) (m + 1) gc)
        refine bodyPost_ret (v := .tuple #[.agg #[.slice oa m oc, .slice (some ⟨g, 0, none⟩) (m + 1) gc], .bool true]) (by simp [results, Try.results32, go_sem, r0, r1]) rfl ⟨_, rfl, ?_, ?_⟩
        · rw [HE.out]
          exact ((HNR.out.below HC11.out).out q.2 (.inr (by have := HBL.out; have := HB0.out; omega))).mono HB2.out.size (Nat.le_trans HC11.out.size q.2.size)
        · exact q.2.below HB11.out HB11.out.size (by omega)
theorem schain_w (v : Value) (ps : List Prg) (u : Value) (ts : List Int) (w : World) (h : SlP w v ps) (hu : Sl w u ts) (hs : sumP ps ≤ 1048576) (hts : ts.length ≤ 1048576) :
    Calls Try.prog 32 #[v, u] w fun e w' => ∃ r, e = .returned (.tuple #[r, .bool (chainB ps ts)]) ∧ NetR w.heap.size w'.heap.size w' r (chainNetworkR0 ps ts) ∧ Below w.heap.size w w' :=
  schain_any v ps u ts w h hu (by unfold sumP at hs; omega) (fun p hp => by unfold sumP at hs; have := code_le_sum ps p hp; omega) hts
theorem ichain_w (v : Value) (ps : List Prg) (u : Value) (ts : List Int) (w : World) (h : SlP w v ps) (hu : Sl w u ts) (hs : sumP ps ≤ 1048576) :
    Calls Try.prog 34 #[v, u] w fun e w' => ∃ r, e = .returned (.tuple #[r, .bool (chainB ps ts)]) ∧ NetR w.heap.size w'.heap.size w' r (chainNetworkR0 ps ts) ∧ Below w.heap.size w w' :=
  ichain_any v ps u ts w h hu (by unfold sumP at hs; omega)
end Go.Proofs.Ytmfagmfclehdbaa
