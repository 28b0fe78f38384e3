/-
  partFrom: the links of a template by their kinds. No statement of the seat is proved here.
-/
import Derived.Test.YtkeoefbkeommhaaPtR
import Derived.Test.YtkeoefbkeommhaaRcw
import Derived.Test.YtkeoefbkeommhaaNpi
import Derived.Deep.CutRange
namespace Go.Proofs.Ytkeoefbkeommhaa
open Go.RowKit

def isInB (l : Lnk) : Bool := decide (l.src = outE)
def isOutB (l : Lnk) : Bool := !decide (l.src = outE) && decide (l.tgt = outE)
def isMidB (l : Lnk) : Bool := !decide (l.src = outE) && !decide (l.tgt = outE)
/-- The links of a network whose first process gets the index first. -/
def shL (first : Int) (ls : List Lnk) : List Lnk := ls.map (renL (fun x => first + x))
def ptI (first : Int) (m : Net) : List Lnk := (shL first m.links).filter isInB
def ptO (first : Int) (m : Net) : List Lnk := (shL first m.links).filter isOutB
def ptN (first : Int) (m : Net) : List Lnk := (shL first m.links).filter isMidB
theorem filter_step {p : Lnk → Bool} {ls : List Lnk} {j : Nat} {l : Lnk} (hx : ls[j]? = some l) : (ls.take (j + 1)).filter p = (ls.take j).filter p ++ (if p l then [l] else []) := by
  have hj := (List.getElem?_eq_some_iff.1 hx).1
  rw [List.take_succ_eq_append_getElem hj, (List.getElem?_eq_some_iff.1 hx).2, List.filter_append]
  congr 1
  rw [List.filter_cons]
  rfl
theorem filter_yes {p : Lnk → Bool} {ls : List Lnk} {j : Nat} {l : Lnk} (hx : ls[j]? = some l) (h : p l = true) : (ls.take (j + 1)).filter p = (ls.take j).filter p ++ [l] := by rw [filter_step hx, if_pos h]
theorem filter_no {p : Lnk → Bool} {ls : List Lnk} {j : Nat} {l : Lnk} (hx : ls[j]? = some l) (h : p l = false) : (ls.take (j + 1)).filter p = (ls.take j).filter p := by rw [filter_step hx, if_neg (by rw [h]; decide), List.append_nil]
theorem set3_0 {w : World} {g T : Nat} {u0 u1 u2 : Value} (h : w.heap[g]? = some (.cells #[u0, u1, u2] T)) (v : Value) : (w.setCell ⟨g, 0, none⟩ v).heap[g]? = some (.cells #[v, u1, u2] T) := by
  rw [heap_setCell_same w g 0 #[u0, u1, u2] T v h]; rfl
theorem set3_1 {w : World} {g T : Nat} {u0 u1 u2 : Value} (h : w.heap[g]? = some (.cells #[u0, u1, u2] T)) (v : Value) : (w.setCell ⟨g, 1, none⟩ v).heap[g]? = some (.cells #[u0, v, u2] T) := by
  rw [heap_setCell_same w g 1 #[u0, u1, u2] T v h]; rfl
theorem set3_2 {w : World} {g T : Nat} {u0 u1 u2 : Value} (h : w.heap[g]? = some (.cells #[u0, u1, u2] T)) (v : Value) : (w.setCell ⟨g, 2, none⟩ v).heap[g]? = some (.cells #[u0, u1, v] T) := by
  rw [heap_setCell_same w g 2 #[u0, u1, u2] T v h]; rfl
theorem set3_out (w : World) (g : Nat) (a b c : Value) : Out g (g + 1) w (((w.setCell ⟨g, 0, none⟩ a).setCell ⟨g, 1, none⟩ b).setCell ⟨g, 2, none⟩ c) :=
  (((Out.refl g (g + 1) w).setC (p := ⟨g, 0, none⟩) (Nat.le_refl _) (Nat.lt_succ_self _) _).setC (p := ⟨g, 1, none⟩) (Nat.le_refl _) (Nat.lt_succ_self _) _).setC (p := ⟨g, 2, none⟩) (Nat.le_refl _) (Nat.lt_succ_self _) _
theorem rowL_kept {lo : Nat} {w0 w w' : World} {v u : Value} {xs : List Lnk} {A : Obj} (h : RowL lo w0 w v xs) (ha : Apart v u) (hg : (w.alloc A).grownBy w' u.ownBlock) : RowL lo w0 w' v xs := by
  obtain ⟨us, a, b, c⟩ := h
  exact ⟨us, a, World.ownsRow.kept (World.ownsRow.alloc b _) hg ha, c⟩
theorem rowL_apart {lo g G n c : Nat} {w0 w : World} {v o : Value} {xs : List Lnk} (h : RowL lo w0 w v xs) (ha : Apart v o) (hor : o.ownBlock = some g ∨ g = G) (hG : w.heap.size ≤ G) : Apart v (.slice (some ⟨g, 0, none⟩) n c) := by
  unfold Apart at ha ⊢
  rcases hor with e | e
  · rw [e] at ha; exact ha
  · cases hv : v.ownBlock with
    | none => exact .inl rfl
    | some q =>
      right
      intro e2
      have := (h.lt q hv).2
      simp [Value.ownBlock] at e2
      omega

set_option maxRecDepth 100000 in
set_option maxHeartbeats 16000000 in
theorem ipart_any (v : Value) (m : Net) (first : Int) (w0 w : World) (h : NetV w0 v m) (hb0 : Below w0.heap.size w0 w) (hok : okN m = true) (hf : 0 ≤ first ∧ first ≤ 1000) :
    Calls Try.prog 70 #[v, .int .i64 first] w fun e w' => ∃ a b c, e = .returned (.agg #[a, b, c]) ∧ RowL w.heap.size w0 w' a (ptI first m) ∧ RowL w.heap.size w0 w' b (ptO first m) ∧ RowL w.heap.size w0 w' c (ptN first m) ∧ Below w.heap.size w w' := by
  have HOK := Lib.hid hok
  obtain ⟨pv, lv, rfl, hp, hl⟩ := h
  have LL := hl.len
  have HL := Lib.hid hl
  obtain ⟨la, lcap, rfl⟩ := hl.shape
  obtain ⟨pa, pcap, rfl⟩ := hp.shape
  have hl30 := (okN_len hok).2.1
  obtain ⟨pm, hpm⟩ : ∃ z, z = m.progs.length := ⟨_, rfl⟩
  obtain ⟨ll, hll⟩ : ∃ z, z = m.links.length := ⟨_, rfl⟩
  rw [← hpm, ← hll]
  rw [← hll] at HL LL hl30
  have NL := Lib.hid hll
  clear hp hl hpm hll hok
  obtain ⟨j0, hj, hy0, hy1, hy2⟩ := infoL_parts
  go_enter Try.func70, Try.ntmps70
  go_upto_region 2 with fail
  generalize hW : (((w.alloc (.cells #[.slice pa pm pcap, .slice la ll lcap] 31)).alloc (.cells #[.int .i64 first] 3)).alloc (.cells #[.slice none 0 0, .slice none 0 0, .slice none 0 0] 89)).alloc (.cells #[.slice none 0 0, .slice none 0 0, .slice none 0 0] 89) = w4
  have HW4 := Lib.hid (show w.heap.size + 4 = w4.heap.size by rw [← hW]; simp)
  have N4 := Lib.hid (show w4.heap[w.heap.size]? = some (.cells #[.slice pa pm pcap, .slice la ll lcap] 31) by rw [← hW]; exact al_keep (al_keep (hp21 w _ _)))
  have F4 := Lib.hid (show w4.heap[w.heap.size + 1]? = some (.cells #[.int .i64 first] 3) by rw [← hW]; exact al_keep (al_keep (hp2 w _ _)))
  have J4 := Lib.hid (show w4.heap[w.heap.size + 2]? = some (.cells #[.slice none 0 0, .slice none 0 0, .slice none 0 0] 89) by rw [← hW]; exact al_keep (al_at (by simp)))
  have P4 := Lib.hid (show w4.heap[w.heap.size + 3]? = some (.cells #[.slice none 0 0, .slice none 0 0, .slice none 0 0] 89) by rw [← hW]; exact al_at (by simp))
  have hb := Lib.hid (show Below w.heap.size w w4 by rw [← hW]; exact ((((Below.refl _ _).al _).al _).al _).al _)
  clear hW
  obtain ⟨k0, k1⟩ := cells2 N4.out
  have gl := lt_of N4.out
  have CR := Lib.hid (irenF_any (w.heap.size + 1) (fun x => first + x) (.slice la ll lcap) m.links w0 w4 HL.out (hb0.trans (hb.out.mono hb0.size)) (by rw [← NL.out]; omega) (fun W i hw he => icloF_any (w.heap.size + 1) first i W (blk_in F4.out hw) (by
    obtain ⟨l, hl, he⟩ := he
    have q := frm_of HOK.out hl
    have hlen := (okN_len HOK.out).1
    rcases he with ⟨rfl, hs⟩ | ⟨rfl, hs⟩
    · rcases q.1 with ⟨q1, _⟩ | ⟨_, q2, q3⟩
      · exact absurd q1 hs
      · omega
    · rcases q.2 with ⟨q1, _⟩ | ⟨_, q2, q3⟩
      · exact absurd q1 hs
      · omega) (by omega)))
  obtain ⟨B, hB⟩ : ∃ B, B = w.heap.size + 3 := ⟨_, rfl⟩
  have HBE := Lib.hid hB
  rw [← hB] at P4
  go_wp2_with (go_at_call 66; (with_reducible refine CR.out.mono ?_); rintro e w7 ⟨c, rfl, ⟨us, hus, hsl, hvl⟩, hb7⟩; have HUS := Lib.hid hus; have HSL := Lib.hid hsl; have HVL := Lib.hid hvl; have HC7 := Lib.hid hb7; obtain ⟨ca, cc, rfl⟩ := hvl.shape; rw [List.length_map, ← NL.out] at HVL ⊢; clear hus hsl hvl hb7)
  try rw [show w.heap.size + 1 + 1 + 1 = B from HBE.out.symm]
  have P7 := Lib.hid (blk_in P4.out HC7.out)
  have J7 := Lib.hid (blk_in J4.out HC7.out)
  have HB7 := Lib.hid (hb.out.trans (HC7.out.mono hb.out.size))
  have HBL := Lib.hid (lt_of P7.out)
  have HB4 := Lib.hid (show B < w4.heap.size ∧ w4.heap.size ≤ w7.heap.size from ⟨lt_of P4.out, HC7.out.size⟩)
  clear k0 k1 gl hB
  rw [show m.links.map (renL (fun x => first + x)) = shL first m.links from rfl] at HVL
  go_loopw [13] (fun i wr => ∃ (j ci co cn : Nat) (ia oa na : Option Addr) (ic oc nc : Nat), j ≤ ll ∧ i = .int .i64 j ∧ (ci ≤ j ∧ co ≤ j ∧ cn ≤ j) ∧ Hid (ci = (((shL first m.links).take j).filter isInB).length) ∧ Hid (co = (((shL first m.links).take j).filter isOutB).length) ∧ Hid (cn = (((shL first m.links).take j).filter isMidB).length) ∧ Hid (wr.heap[B]? = some (.cells #[.slice ia ci ic, .slice oa co oc, .slice na cn nc] 89)) ∧ Hid (RowL w7.heap.size w0 wr (.slice ia ci ic) (((shL first m.links).take j).filter isInB)) ∧ Hid (RowL w7.heap.size w0 wr (.slice oa co oc) (((shL first m.links).take j).filter isOutB)) ∧ Hid (RowL w7.heap.size w0 wr (.slice na cn nc) (((shL first m.links).take j).filter isMidB)) ∧ Hid (Apart (.slice ia ci ic) (.slice oa co oc) ∧ Apart (.slice ia ci ic) (.slice na cn nc) ∧ Apart (.slice oa co oc) (.slice na cn nc)) ∧ Hid (Out B (B + 1) w7 wr)) (fun i _ => ll - (intOf i).toNat)
  case atStart => exact ⟨0, 0, 0, 0, none, none, none, 0, 0, 0, Nat.zero_le _, rfl, ⟨Nat.le_refl _, Nat.le_refl _, Nat.le_refl _⟩, Lib.hid rfl, Lib.hid rfl, Lib.hid rfl, P7, Lib.hid (RowL.nil _ _ _), Lib.hid (RowL.nil _ _ _), Lib.hid (RowL.nil _ _ _), Lib.hid ⟨.inl rfl, .inl rfl, .inl rfl⟩, Lib.hid (Out.refl _ _ _)⟩
  case round =>
    obtain ⟨j, ci, co, cn, ia, oa, na, ic, oc, nc, hjl, rfl, hcs, HLI, HLO, HLN, HS, HGI, HGO, HGN, HAP, HO⟩ := hrel
    have HBW := Lib.hid (HO.out.below HB7.out HB7.out.size (by have := HBE.out; omega))
    have hcs1 := hcs.1
    have hcs2 := hcs.2.1
    have hcs3 := hcs.2.2
    have hz7 := HB4.out
    have hzw : w7.heap.size ≤ wr.heap.size := HO.out.size
    by_cases hlt : j < ll
    case pos =>
      have VW := Lib.hid (HVL.out.keep (w' := wr) (fun B' cur h1 h2 q => HO.out.blk q (.inr (by omega))))
      obtain ⟨l0, hl0⟩ : ∃ x, m.links[j]? = some x := ⟨_, List.getElem?_eq_getElem (by rw [← NL.out]; exact hlt)⟩
      have hx : (shL first m.links)[j]? = some (renL (fun x => first + x) l0) := by unfold shL; rw [List.getElem?_map, hl0]; rfl
      obtain ⟨u, hu⟩ : ∃ u, us[j]? = some u := ⟨_, List.getElem?_eq_getElem (by rw [HUS.out, ← NL.out]; exact hlt)⟩
      obtain ⟨LB, pcx, hpe, hpb1, hpb2, hpl, hpt, hpf, e0, e1, e2, e3, e4⟩ := VW.out.at hu hx
      simp only [Value.slice.injEq] at hpe
      obtain ⟨rfl, hlen, rfl⟩ := hpe
      have ES0 := HSL.out j u l0 hu hl0
      obtain ⟨x, hxe⟩ : ∃ x, x = renL (fun x => first + x) l0 := ⟨_, rfl⟩
      have ES := Lib.hid (show Sl w0 u x.tok by rw [hxe]; exact ES0)
      rw [← hxe] at hx e0 e1 e2 e3
      have HX := Lib.hid hx
      clear hx hl0 hu hlen hpb1 hpb2 hpt hpf ES0 hxe
      obtain ⟨x0, x1, x2, x3, row⟩ := x
      simp only [] at e0 e1 e2 e3 ES
      obtain ⟨ua, uc, rfl⟩ := ES.out.shape
      obtain ⟨ul, hul⟩ : ∃ q, q = row.length := ⟨_, rfl⟩
      rw [← hul] at e4 ES
      clear hul
      have II := Lib.hid (fun (W : World) => iinput_any x0 x1 x2 x3 (.slice ua ul uc) W)
      have IO := Lib.hid (fun (W : World) => ioutput_any x0 x1 x2 x3 (.slice ua ul uc) W)
      go_upto_region 6 with fail
      generalize hW : wr.alloc (.cells #[.int .i64 x0, .int .i64 x1, .int .i64 x2, .int .i64 x3, .slice ua ul uc] 68) = W1
      have HC1 := Lib.hid (show Below wr.heap.size wr W1 by rw [← hW]; exact (Below.refl _ _).al _)
      have X1 := Lib.hid (show W1.heap[wr.heap.size]? = some (.cells #[.int .i64 x0, .int .i64 x1, .int .i64 x2, .int .i64 x3, .slice ua ul uc] 68) by rw [← hW]; exact hp1 _ _)
      clear hW
      obtain ⟨X, hXe⟩ : ∃ z, z = wr.heap.size := ⟨_, rfl⟩
      rw [← hXe] at X1 ⊢
      clear hXe
      obtain ⟨p0, p1, p2, p3, p4⟩ := cells5 X1.out
      have pl := lt_of X1.out
      by_cases h1 : ((x0, x1) : End) = outE
      · rw [decide_eq_true h1] at II
        have FI := Lib.hid (filter_yes HX.out (p := isInB) (decide_eq_true h1))
        have FO := Lib.hid (filter_no HX.out (p := isOutB) (by unfold isOutB; rw [decide_eq_true (show (Lnk.src ⟨x0, x1, x2, x3, row⟩) = outE from h1)]; rfl))
        have FN := Lib.hid (filter_no HX.out (p := isMidB) (by unfold isMidB; rw [decide_eq_true (show (Lnk.src ⟨x0, x1, x2, x3, row⟩) = outE from h1)]; rfl))
        clear h1
        obtain ⟨us, lus, hU1, hU2⟩ := HGI.out
        have HLU := Lib.hid lus
        have HU2 := Lib.hid hU2
        rw [← HLI.out] at hU1
        have HU0 := Lib.hid hU1
        have HNE := Lib.hid (show some B ≠ (Value.slice ia ci ic).ownBlock from fun e => by have := (World.ownsRow.lt HU0.out B e.symm).1; have := HBL.out; omega)
        clear hU1 hU2 lus
        go_wp2_with (first | (at_builtin; refine Go.wpList_append_lies _ rfl _ _ 29 rfl w7.heap.size 68 j0 (.agg #[.int .i64 0, .int .i64 0, .int .i64 0, .int .i64 0, .slice none 0 0]) 5 56 Try.underlying29 hj hy0 hy1 hy2 rfl (by decide) (.slice ia ci ic) ci (cellsL ((shL first m.links).take j |>.filter isInB) us) rfl (World.ownsRow.alloc (row_below HU0.out HR2.out) _) ⟨W2.heap.size, 0, none⟩ 1 1 [.int .i64 x0, .int .i64 x1, .int .i64 x2, .int .i64 x3, .slice ua ul uc] rfl rfl (lit_cells W2 #[.int .i64 x0, .int .i64 x1, .int .i64 x2, .int .i64 x3, .slice ua ul uc] 68) (by intro u hu; simp at hu; rcases hu with rfl | rfl | rfl | rfl | rfl <;> rfl) (by omega) (by unfold maxLen; omega) (by omega) (by have := HR2.out.size; simp; omega) (W2.heap.size + 1) (by simp) ?_; intro g9 gc w6 hown hgrow hor hglt; have B12 := Lib.hid (grow_box B2.out hgrow HNE.out); have HOW := Lib.hid hown; have HGR := Lib.hid hgrow; have HOR := Lib.hid hor; obtain ⟨d0, d1, d2⟩ := cells3 B12.out; have dz := fr_of B12.out 0; have dl := lt_of B12.out; clear hown hgrow hor hglt) | (go_at_call 110; (with_reducible refine (II.out _).mono ?_); rintro e W2 ⟨rfl, hb2⟩; have HR2 := Lib.hid (HC1.out.trans (hb2.mono HC1.out.size)); have X2 := Lib.hid (blk_in X1.out hb2); have B2 := Lib.hid (blk_in HS.out HR2.out); clear p0 p1 p2 p3 p4 pl; (try clear b0 b1 b2 bl bz0 bz1 bz2); obtain ⟨p0, p1, p2, p3, p4⟩ := cells5 X2.out; have pl := lt_of X2.out; obtain ⟨b0, b1, b2⟩ := cells3 B2.out; have bl := lt_of B2.out; have bz0 := fr_of B2.out 0; have bz1 := fr_of B2.out 1; have bz2 := fr_of B2.out 2; clear hb2))
        go_roundw
        case rel =>
          have SB := (Out.refl B (B + 1) w6).setC (p := ⟨B, 0, none⟩) (Nat.le_refl _) (Nat.lt_succ_self _) (.slice (some ⟨g9, 0, none⟩) (ci + 1) gc)
          refine ⟨j + 1, ci + 1, co, cn, some ⟨g9, 0, none⟩, oa, na, gc, oc, nc, by omega, by go_num, ⟨by omega, by omega, by omega⟩, by rw [FI.out, List.length_append, ← HLI.out]; exact Lib.hid rfl, by rw [FO.out]; exact HLO, by rw [FN.out]; exact HLN, Lib.hid (set3_0 B12.out _), by rw [FI.out]; exact Lib.hid (RowL.out (RowL.snoc (a := ⟨x0, x1, x2, x3, row⟩) HLU.out HU2.out ES.out (by rw [← HLI.out]; exact HOW.out)) SB (fun z e => .inr (by have := (World.ownsRow.lt HOW.out z e).1; omega))), by rw [FO.out]; exact Lib.hid (RowL.out (rowL_kept (HGO.out.below HR2.out) (Apart.symm HAP.out.1) HGR.out) SB (fun z e => .inr (by have := (HGO.out.lt z e).1; omega))), by rw [FN.out]; exact Lib.hid (RowL.out (rowL_kept (HGN.out.below HR2.out) (Apart.symm HAP.out.2.1) HGR.out) SB (fun z e => .inr (by have := (HGN.out.lt z e).1; omega))), Lib.hid ⟨(Apart.symm (rowL_apart (HGO.out.below HR2.out) (Apart.symm HAP.out.1) HOR.out (by omega))), (Apart.symm (rowL_apart (HGN.out.below HR2.out) (Apart.symm HAP.out.2.1) HOR.out (by omega))), HAP.out.2.2⟩, Lib.hid ?_⟩
          exact (((HO.out.belowHi HR2.out).al _).grownHi HGR.out (fun q e => (World.ownsRow.lt HU0.out q e).1)).setC (p := ⟨B, 0, none⟩) (Nat.le_refl _) (Nat.lt_succ_self _) _
        case measure => simp [intOf]; omega
      · rw [decide_eq_false h1] at II
        have hs0 : decide (Lnk.src ⟨x0, x1, x2, x3, row⟩ = outE) = false := decide_eq_false h1
        have FI := Lib.hid (filter_no HX.out (p := isInB) hs0)
        by_cases h2 : ((x2, x3) : End) = outE
        · rw [decide_eq_true h2] at IO
          have ht0 : decide (Lnk.tgt ⟨x0, x1, x2, x3, row⟩ = outE) = true := decide_eq_true h2
          have FO := Lib.hid (filter_yes HX.out (p := isOutB) (by unfold isOutB; rw [hs0, ht0]; rfl))
          have FN := Lib.hid (filter_no HX.out (p := isMidB) (by unfold isMidB; rw [hs0, ht0]; rfl))
          clear h1 h2 hs0 ht0
          obtain ⟨us, lus, hU1, hU2⟩ := HGO.out
          have HLU := Lib.hid lus
          have HU2 := Lib.hid hU2
          rw [← HLO.out] at hU1
          have HU0 := Lib.hid hU1
          have HNE := Lib.hid (show some B ≠ (Value.slice oa co oc).ownBlock from fun e => by have := (World.ownsRow.lt HU0.out B e.symm).1; have := HBL.out; omega)
          clear hU1 hU2 lus
          go_wp2_with (first | (at_builtin; refine Go.wpList_append_lies _ rfl _ _ 29 rfl w7.heap.size 68 j0 (.agg #[.int .i64 0, .int .i64 0, .int .i64 0, .int .i64 0, .slice none 0 0]) 5 56 Try.underlying29 hj hy0 hy1 hy2 rfl (by decide) (.slice oa co oc) co (cellsL ((shL first m.links).take j |>.filter isOutB) us) rfl (World.ownsRow.alloc (row_below HU0.out HR3.out) _) ⟨W3.heap.size, 0, none⟩ 1 1 [.int .i64 x0, .int .i64 x1, .int .i64 x2, .int .i64 x3, .slice ua ul uc] rfl rfl (lit_cells W3 #[.int .i64 x0, .int .i64 x1, .int .i64 x2, .int .i64 x3, .slice ua ul uc] 68) (by intro u hu; simp at hu; rcases hu with rfl | rfl | rfl | rfl | rfl <;> rfl) (by omega) (by unfold maxLen; omega) (by omega) (by have := HR3.out.size; simp; omega) (W3.heap.size + 1) (by simp) ?_; intro g9 gc w6 hown hgrow hor hglt; have B12 := Lib.hid (grow_box B3.out hgrow HNE.out); have HOW := Lib.hid hown; have HGR := Lib.hid hgrow; have HOR := Lib.hid hor; obtain ⟨d0, d1, d2⟩ := cells3 B12.out; have dz := fr_of B12.out 1; have dl := lt_of B12.out; clear hown hgrow hor hglt) | (go_at_call 111; (with_reducible refine (IO.out _).mono ?_); rintro e W3 ⟨rfl, hb3⟩; have HR3 := Lib.hid (HR2.out.trans (hb3.mono HR2.out.size)); have X3 := Lib.hid (blk_in X2.out hb3); have B3 := Lib.hid (blk_in HS.out HR3.out); clear p0 p1 p2 p3 p4 pl; (try clear b0 b1 b2 bl bz0 bz1 bz2); obtain ⟨p0, p1, p2, p3, p4⟩ := cells5 X3.out; have pl := lt_of X3.out; obtain ⟨b0, b1, b2⟩ := cells3 B3.out; have bl := lt_of B3.out; have bz0 := fr_of B3.out 0; have bz1 := fr_of B3.out 1; have bz2 := fr_of B3.out 2; clear hb3) | (go_at_call 110; (with_reducible refine (II.out _).mono ?_); rintro e W2 ⟨rfl, hb2⟩; have HR2 := Lib.hid (HC1.out.trans (hb2.mono HC1.out.size)); have X2 := Lib.hid (blk_in X1.out hb2); have B2 := Lib.hid (blk_in HS.out HR2.out); clear p0 p1 p2 p3 p4 pl; (try clear b0 b1 b2 bl bz0 bz1 bz2); obtain ⟨p0, p1, p2, p3, p4⟩ := cells5 X2.out; have pl := lt_of X2.out; obtain ⟨b0, b1, b2⟩ := cells3 B2.out; have bl := lt_of B2.out; have bz0 := fr_of B2.out 0; have bz1 := fr_of B2.out 1; have bz2 := fr_of B2.out 2; clear hb2))
          go_roundw
          case rel =>
            have SB := (Out.refl B (B + 1) w6).setC (p := ⟨B, 1, none⟩) (Nat.le_refl _) (Nat.lt_succ_self _) (.slice (some ⟨g9, 0, none⟩) (co + 1) gc)
            refine ⟨j + 1, ci, co + 1, cn, ia, some ⟨g9, 0, none⟩, na, ic, gc, nc, by omega, by go_num, ⟨by omega, by omega, by omega⟩, by rw [FI.out]; exact HLI, by rw [FO.out, List.length_append, ← HLO.out]; exact Lib.hid rfl, by rw [FN.out]; exact HLN, Lib.hid (set3_1 B12.out _), by rw [FI.out]; exact Lib.hid (RowL.out (rowL_kept (HGI.out.below HR3.out) HAP.out.1 HGR.out) SB (fun z e => .inr (by have := (HGI.out.lt z e).1; omega))), by rw [FO.out]; exact Lib.hid (RowL.out (RowL.snoc (a := ⟨x0, x1, x2, x3, row⟩) HLU.out HU2.out ES.out (by rw [← HLO.out]; exact HOW.out)) SB (fun z e => .inr (by have := (World.ownsRow.lt HOW.out z e).1; omega))), by rw [FN.out]; exact Lib.hid (RowL.out (rowL_kept (HGN.out.below HR3.out) (Apart.symm HAP.out.2.2) HGR.out) SB (fun z e => .inr (by have := (HGN.out.lt z e).1; omega))), Lib.hid ⟨(rowL_apart (HGI.out.below HR3.out) HAP.out.1 HOR.out (by omega)), HAP.out.2.1, (Apart.symm (rowL_apart (HGN.out.below HR3.out) (Apart.symm HAP.out.2.2) HOR.out (by omega)))⟩, Lib.hid ?_⟩
            exact (((HO.out.belowHi HR3.out).al _).grownHi HGR.out (fun q e => (World.ownsRow.lt HU0.out q e).1)).setC (p := ⟨B, 1, none⟩) (Nat.le_refl _) (Nat.lt_succ_self _) _
          case measure => simp [intOf]; omega
        · rw [decide_eq_false h2] at IO
          have ht0 : decide (Lnk.tgt ⟨x0, x1, x2, x3, row⟩ = outE) = false := decide_eq_false h2
          have FO := Lib.hid (filter_no HX.out (p := isOutB) (by unfold isOutB; rw [hs0, ht0]; rfl))
          have FN := Lib.hid (filter_yes HX.out (p := isMidB) (by unfold isMidB; rw [hs0, ht0]; rfl))
          clear h1 h2 hs0 ht0
          obtain ⟨us, lus, hU1, hU2⟩ := HGN.out
          have HLU := Lib.hid lus
          have HU2 := Lib.hid hU2
          rw [← HLN.out] at hU1
          have HU0 := Lib.hid hU1
          have HNE := Lib.hid (show some B ≠ (Value.slice na cn nc).ownBlock from fun e => by have := (World.ownsRow.lt HU0.out B e.symm).1; have := HBL.out; omega)
          clear hU1 hU2 lus
          go_wp2_with (first | (at_builtin; refine Go.wpList_append_lies _ rfl _ _ 29 rfl w7.heap.size 68 j0 (.agg #[.int .i64 0, .int .i64 0, .int .i64 0, .int .i64 0, .slice none 0 0]) 5 56 Try.underlying29 hj hy0 hy1 hy2 rfl (by decide) (.slice na cn nc) cn (cellsL ((shL first m.links).take j |>.filter isMidB) us) rfl (World.ownsRow.alloc (row_below HU0.out HR3.out) _) ⟨W3.heap.size, 0, none⟩ 1 1 [.int .i64 x0, .int .i64 x1, .int .i64 x2, .int .i64 x3, .slice ua ul uc] rfl rfl (lit_cells W3 #[.int .i64 x0, .int .i64 x1, .int .i64 x2, .int .i64 x3, .slice ua ul uc] 68) (by intro u hu; simp at hu; rcases hu with rfl | rfl | rfl | rfl | rfl <;> rfl) (by omega) (by unfold maxLen; omega) (by omega) (by have := HR3.out.size; simp; omega) (W3.heap.size + 1) (by simp) ?_; intro g9 gc w6 hown hgrow hor hglt; have B12 := Lib.hid (grow_box B3.out hgrow HNE.out); have HOW := Lib.hid hown; have HGR := Lib.hid hgrow; have HOR := Lib.hid hor; obtain ⟨d0, d1, d2⟩ := cells3 B12.out; have dz := fr_of B12.out 2; have dl := lt_of B12.out; clear hown hgrow hor hglt) | (go_at_call 111; (with_reducible refine (IO.out _).mono ?_); rintro e W3 ⟨rfl, hb3⟩; have HR3 := Lib.hid (HR2.out.trans (hb3.mono HR2.out.size)); have X3 := Lib.hid (blk_in X2.out hb3); have B3 := Lib.hid (blk_in HS.out HR3.out); clear p0 p1 p2 p3 p4 pl; (try clear b0 b1 b2 bl bz0 bz1 bz2); obtain ⟨p0, p1, p2, p3, p4⟩ := cells5 X3.out; have pl := lt_of X3.out; obtain ⟨b0, b1, b2⟩ := cells3 B3.out; have bl := lt_of B3.out; have bz0 := fr_of B3.out 0; have bz1 := fr_of B3.out 1; have bz2 := fr_of B3.out 2; clear hb3) | (go_at_call 110; (with_reducible refine (II.out _).mono ?_); rintro e W2 ⟨rfl, hb2⟩; have HR2 := Lib.hid (HC1.out.trans (hb2.mono HC1.out.size)); have X2 := Lib.hid (blk_in X1.out hb2); have B2 := Lib.hid (blk_in HS.out HR2.out); clear p0 p1 p2 p3 p4 pl; (try clear b0 b1 b2 bl bz0 bz1 bz2); obtain ⟨p0, p1, p2, p3, p4⟩ := cells5 X2.out; have pl := lt_of X2.out; obtain ⟨b0, b1, b2⟩ := cells3 B2.out; have bl := lt_of B2.out; have bz0 := fr_of B2.out 0; have bz1 := fr_of B2.out 1; have bz2 := fr_of B2.out 2; clear hb2))
          go_roundw
          case rel =>
            have SB := (Out.refl B (B + 1) w6).setC (p := ⟨B, 2, none⟩) (Nat.le_refl _) (Nat.lt_succ_self _) (.slice (some ⟨g9, 0, none⟩) (cn + 1) gc)
            refine ⟨j + 1, ci, co, cn + 1, ia, oa, some ⟨g9, 0, none⟩, ic, oc, gc, by omega, by go_num, ⟨by omega, by omega, by omega⟩, by rw [FI.out]; exact HLI, by rw [FO.out]; exact HLO, by rw [FN.out, List.length_append, ← HLN.out]; exact Lib.hid rfl, Lib.hid (set3_2 B12.out _), by rw [FI.out]; exact Lib.hid (RowL.out (rowL_kept (HGI.out.below HR3.out) HAP.out.2.1 HGR.out) SB (fun z e => .inr (by have := (HGI.out.lt z e).1; omega))), by rw [FO.out]; exact Lib.hid (RowL.out (rowL_kept (HGO.out.below HR3.out) HAP.out.2.2 HGR.out) SB (fun z e => .inr (by have := (HGO.out.lt z e).1; omega))), by rw [FN.out]; exact Lib.hid (RowL.out (RowL.snoc (a := ⟨x0, x1, x2, x3, row⟩) HLU.out HU2.out ES.out (by rw [← HLN.out]; exact HOW.out)) SB (fun z e => .inr (by have := (World.ownsRow.lt HOW.out z e).1; omega))), Lib.hid ⟨HAP.out.1, (rowL_apart (HGI.out.below HR3.out) HAP.out.2.1 HOR.out (by omega)), (rowL_apart (HGO.out.below HR3.out) HAP.out.2.2 HOR.out (by omega))⟩, Lib.hid ?_⟩
            exact (((HO.out.belowHi HR3.out).al _).grownHi HGR.out (fun q e => (World.ownsRow.lt HU0.out q e).1)).setC (p := ⟨B, 2, none⟩) (Nat.le_refl _) (Nat.lt_succ_self _) _
          case measure => simp [intOf]; omega
    obtain rfl : ll = j := by omega
    have htk : (shL first m.links).take ll = shL first m.links := List.take_of_length_le (by unfold shL; rw [List.length_map, ← NL.out]; omega)
    rw [htk] at HGI HGO HGN
    have JW := Lib.hid (HO.out.blk J7.out (.inl (by have := HBE.out; omega)))
    obtain ⟨s0, s1, s2⟩ := cells3 HS.out
    have sl := lt_of HS.out
    obtain ⟨r0, r1, r2⟩ := cells3 JW.out
    have rl := lt_of JW.out
    have rz0 := fr_of JW.out 0
    have rz1 := fr_of JW.out 1
    have rz2 := fr_of JW.out 2
    clear HVL HUS HSL htk
    go_wp2_with fail
    have q := set3_out wr (w.heap.size + 2) (.slice ia ci ic) (.slice oa co oc) (.slice na cn nc)
    refine bodyPost_ret (v := .agg #[.slice ia ci ic, .slice oa co oc, .slice na cn nc]) (by simp [results, Try.results70, go_sem, r0, r1, r2]) rfl ⟨_, _, _, rfl, ?_, ?_, ?_, ?_⟩
    · exact (RowL.out HGI.out q (fun z e => .inr (by have := (HGI.out.lt z e).1; have := HBE.out; omega))).mono (by have := HB7.out.size; omega)
    · exact (RowL.out HGO.out q (fun z e => .inr (by have := (HGO.out.lt z e).1; have := HBE.out; omega))).mono (by have := HB7.out.size; omega)
    · exact (RowL.out HGN.out q (fun z e => .inr (by have := (HGN.out.lt z e).1; have := HBE.out; omega))).mono (by have := HB7.out.size; omega)
    · exact q.below HBW.out HBW.out.size (by omega)
end Go.Proofs.Ytkeoefbkeommhaa
