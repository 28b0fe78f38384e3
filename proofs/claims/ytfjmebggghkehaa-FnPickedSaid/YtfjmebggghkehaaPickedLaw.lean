/-
  The walk of the law FnPicked: it answers true and changes nothing that was there.
-/
import Derived.Test.YtfjmebggghkehaaPickA
import Derived.Test.YtfjmebggghkehaaDraw
import Derived.Test.YtfjmebggghkehaaFresh
import Derived.Test.YtfjmebggghkehaaEq2
import Derived.Deep.Cut
namespace Go.Proofs.Ytfjmebggghkehaa
open Go.RowKit

theorem all_set0 {xs : List Int} (h : xs.all isTok = true) (j : Nat) : (xs.set j 0).all isTok = true := by
  rw [List.all_eq_true] at h ⊢
  intro x hx
  rcases List.mem_or_eq_of_mem_set hx with q | q
  · exact h x q
  · subst q; decide
theorem own_put0 {lo g n cap : Nat} {w : World} {xs : List Int} (h : Own lo w (.slice (some ⟨g, 0, none⟩) n cap) xs) (hn : xs.length = n) (j : Nat) : Own lo (w.setCell ⟨g, j, none⟩ (.int .i64 0)) (.slice (some ⟨g, 0, none⟩) n cap) (xs.set j 0) := by
  unfold Own at h ⊢
  rw [hn] at h
  have := (h.stored j (.int .i64 0)).1
  rw [List.length_set, hn, show vals (xs.set j 0) = (vals xs).set j (.int .i64 0) by simp [vals, List.map_set]]
  exact this
/-- What the law's own loop has taken so far. -/
def pickSt (c a b : List Int) (j ia ib : Nat) (L : List Int) : Prop :=
  ia ≤ a.length ∧ ib ≤ b.length ∧ pickL c a b = (L ++ (pickL (c.drop j) (a.drop ia) (b.drop ib)).1, ia + (pickL (c.drop j) (a.drop ia) (b.drop ib)).2.1, ib + (pickL (c.drop j) (a.drop ia) (b.drop ib)).2.2)
theorem pickSt_start (c a b : List Int) : pickSt c a b 0 0 0 [] := by unfold pickSt; simp
theorem drop_at {xs : List Int} {j : Nat} (h : j < xs.length) : xs.drop j = xs.getD j 0 :: xs.drop (j + 1) := by rw [List.drop_eq_getElem_cons h]; simp [List.getD, h]
theorem pickSt_end {c a b L : List Int} {j ia ib : Nat} (h : pickSt c a b j ia ib L) (hj : ¬ j < c.length) : pickL c a b = (L, ia, ib) := by
  have := h.2.2
  rw [List.drop_eq_nil_of_le (show c.length ≤ j by omega)] at this
  simpa [pickL] using this
theorem pickSt_a0 {c a b L : List Int} {j ia ib : Nat} (h : pickSt c a b j ia ib L) (hj : j < c.length) (hz : c.getD j 0 = 0) (hi : ia = a.length) : pickL c a b = (L, ia, ib) := by
  have := h.2.2
  rw [drop_at hj, List.drop_eq_nil_of_le (show a.length ≤ ia by omega), pick_a0 hz] at this
  simpa using this
theorem pickSt_b0 {c a b L : List Int} {j ia ib : Nat} (h : pickSt c a b j ia ib L) (hj : j < c.length) (hz : c.getD j 0 ≠ 0) (hi : ib = b.length) : pickL c a b = (L, ia, ib) := by
  have := h.2.2
  rw [drop_at hj, List.drop_eq_nil_of_le (show b.length ≤ ib by omega), pick_b0 hz] at this
  simpa using this
theorem pickSt_a1 {c a b L : List Int} {j ia ib : Nat} (h : pickSt c a b j ia ib L) (hj : j < c.length) (hz : c.getD j 0 = 0) (hi : ia < a.length) : pickSt c a b (j + 1) (ia + 1) ib (L ++ [a.getD ia 0]) := by
  have h3 := h.2.2
  rw [drop_at hj, drop_at hi, pick_a1 hz] at h3
  refine ⟨hi, h.2.1, h3.trans ?_⟩
  simp only [List.append_assoc, List.singleton_append]
  congr 2
  omega
theorem pickSt_b1 {c a b L : List Int} {j ia ib : Nat} (h : pickSt c a b j ia ib L) (hj : j < c.length) (hz : c.getD j 0 ≠ 0) (hi : ib < b.length) : pickSt c a b (j + 1) ia (ib + 1) (L ++ [b.getD ib 0]) := by
  have h3 := h.2.2
  rw [drop_at hj, drop_at hi, pick_b1 hz] at h3
  refine ⟨h.1, hi, h3.trans ?_⟩
  simp only [List.append_assoc, List.singleton_append]
  congr 2
  omega
theorem slr3 {W : World} {g : Nat} {x y z : Value} {c a b : List Int} (h : W.heap[g]? = some (.cells #[x, y, z] 23)) (hc : Sl W x c) (ha : Sl W y a) (hb : Sl W z b) : SlR W (.slice (some ⟨g, 0, none⟩) 3 3) [c, a, b] := by
  refine ⟨some ⟨g, 0, none⟩, 3, rfl, Nat.le_refl _, by unfold maxLen; omega, (fun e => by cases e), .inr ⟨g, 0, rfl, lt_of h, fun i xs hi => ?_⟩⟩
  match i, hi with
  | 0, hi => simp at hi; subst hi; exact ⟨x, by rw [cell_of h]; rfl, hc⟩
  | 1, hi => simp at hi; subst hi; exact ⟨y, by rw [cell_of h]; rfl, ha⟩
  | 2, hi => simp at hi; subst hi; exact ⟨z, by rw [cell_of h]; rfl, hb⟩
  | i + 3, hi => simp at hi
theorem isS_of {xs : List Int} (h : xs.all isTok = true) (hl : xs.length ≤ 400) : isS xs = true := by unfold isS; rw [h, decide_eq_true hl]; rfl

set_option maxRecDepth 100000 in
set_option maxHeartbeats 16000000 in
theorem fnPicked_core (pa : Option Addr) (pc : Nat) (bs : List Int) (w : World) (h : Sb w (.slice pa bs.length pc) bs) (hs : bs.length ≤ 1048576) :
    Calls Try.prog 7 #[.slice pa bs.length pc] w fun e w' => e = .returned (.bool true) ∧ Below w.heap.size w w' := by
  have HS := Lib.hid h
  have HL := Lib.hid hs
  obtain ⟨bl, hbl⟩ : ∃ z, z = bs.length := ⟨_, rfl⟩
  rw [← hbl] at HS hs ⊢
  clear h hbl
  have d0 : decide ((bl : Int) > 1048576) = false := decide_eq_false (by omega)
  have d1 : decide (1048576 < (bl : Int)) = false := decide_eq_false (by omega)
  go_enter Try.func7, Try.ntmps7
  go_wp2_with (go_at_call 15; refine (make_any _ bs 12 _ HS.out HL.out (by omega) (by omega)).mono ?_; rintro e w2 ⟨cv, c, rfl, oc, hcl, hct, hb2⟩; obtain ⟨ca, cc, rfl⟩ := oc.shape; have OC := Lib.hid oc; have HCT := Lib.hid hct; have HB2 := Lib.hid hb2; clear oc hct hb2)
  obtain ⟨cl, hcle⟩ : ∃ z, z = c.length := ⟨_, rfl⟩
  rw [← hcle] at hcl OC ⊢
  have HCI := Lib.hid (show ∃ c : List Int, c.length = cl ∧ c.all isTok = true ∧ Own w.heap.size w2 (.slice ca cl cc) c from ⟨c, hcle.symm, HCT.out, OC.out⟩)
  clear hcle OC HCT
  go_loopw [23] (fun i wr => ∃ k : Nat, k ≤ cl ∧ i = .int .i64 k ∧ Hid (∃ c : List Int, c.length = cl ∧ c.all isTok = true ∧ Own w.heap.size wr (.slice ca cl cc) c) ∧ Hid (Below w.heap.size w wr)) (fun i _ => cl - (intOf i).toNat)
  case atStart => exact ⟨0, Nat.zero_le _, rfl, HCI, HB2⟩
  case round =>
    clear HCI HB2
    obtain ⟨k, hk, rfl, HC, HB⟩ := hrel
    obtain ⟨c, hcl2, hct, hoc⟩ := HC.out
    by_cases hlt : k < cl
    · obtain ⟨g, cap, hv, hg0, hg1, hcell, hfz⟩ := own_at hoc hcl2 hlt
      simp only [Value.slice.injEq, true_and] at hv
      obtain ⟨rfl, rfl⟩ := hv
      have HOC := Lib.hid hoc
      have HCT := Lib.hid hct
      have HCL := Lib.hid hcl2
      have HG := Lib.hid hg0
      have lk2 : (k : Int) < (cl : Int) := by omega
      have HSk := Lib.hid (HS.out.below HB.out)
      clear hoc hct hcl2 hg0
      go_wp2_with (go_at_call 24; refine (at_any _ bs _ _ HSk.out HL.out (by omega) (by omega)).mono ?_; rintro e w' ⟨r, rfl, r0, r1, rfl⟩; have wr1 : wrap64 (r.tmod 2) = r.tmod 2 := IntWalk.wrap64_in _ (by have := Int.tmod_lt_of_pos r (show (0 : Int) < 2 by omega); have := Int.lt_tmod_of_pos r (show (0 : Int) < 2 by omega); omega))
      · go_roundw
        case rel => exact ⟨k + 1, by omega, by go_num, Lib.hid ⟨c.set k 0, by rw [List.length_set]; exact HCL.out, all_set0 HCT.out k, own_put0 HOC.out HCL.out k⟩, Lib.hid (HB.out.setCell HG.out _)⟩
        case measure => simp [intOf]; omega
      · go_roundw
        case rel => exact ⟨k + 1, by omega, by go_num, Lib.hid ⟨c, HCL.out, HCT.out, HOC.out⟩, HB⟩
        case measure => simp [intOf]; omega
    · have HCC := Lib.hid hoc
      have HCT := Lib.hid hct
      have HCL := Lib.hid hcl2
      have HBB := Lib.hid HB.out
      clear hoc hct hcl2 HC
      go_upto_region 11 with (first | (go_at_call 16; refine (fresh_any _ bs _ _ (HS.out.below HBB.out) HL.out (by omega) (by omega)).mono ?_; rintro e WF ⟨rf, ys, rfl, hf, hfl, hfb⟩; have HF := Lib.hid hf; have HFL := Lib.hid (show ys.length ≤ 1048576 by omega); have HFB := Lib.hid (HBB.out.trans (hfb.mono HBB.out.size)); have HCF := Lib.hid (HCC.out.below hfb); clear hf hfl hfb) | (go_at_call 15; refine (make_any _ _ 9 _ HF.out HFL.out (by omega) (by omega)).mono ?_; rintro e WA ⟨av, a, rfl, oa, hal, hat, hab⟩; obtain ⟨aa, ac, rfl⟩ := oa.shape; have OA := Lib.hid (Own.mono (lo' := w.heap.size) oa HFB.out.size); have HTA := Lib.hid hat; have HBA := Lib.hid (HFB.out.trans (hab.mono HFB.out.size)); have HCA := Lib.hid (HCF.out.below hab); clear oa hat hab))
      have HBB := Lib.hid HBA.out
      have HCC := Lib.hid HCA.out
      go_upto_region 12 with (first | (go_at_call 16; refine (fresh_any _ bs _ _ (HS.out.below HBB.out) HL.out (by omega) (by omega)).mono ?_; rintro e WF ⟨rf, ys, rfl, hf, hfl, hfb⟩; have HF := Lib.hid hf; have HFL := Lib.hid (show ys.length ≤ 1048576 by omega); have HFB := Lib.hid (HBB.out.trans (hfb.mono HBB.out.size)); have HAF := Lib.hid (OA.out.below hfb); have HCF := Lib.hid (HCC.out.below hfb); clear hf hfl hfb) | (go_at_call 15; refine (make_any _ _ 9 _ HF.out HFL.out (by omega) (by omega)).mono ?_; rintro e WB ⟨bv, b, rfl, ob, hbl, hbt, hbb⟩; obtain ⟨ba, bc, rfl⟩ := ob.shape; have OB := Lib.hid (Own.mono (lo' := w.heap.size) ob HFB.out.size); have HTB := Lib.hid hbt; have HBB := Lib.hid (HFB.out.trans (hbb.mono HFB.out.size)); have HCB := Lib.hid (HCF.out.below hbb); have HAB := Lib.hid (HAF.out.below hbb); clear ob hbt hbb))
      have SC := Lib.hid HCB.out.sl
      have SA := Lib.hid HAB.out.sl
      have SB := Lib.hid OB.out.sl
      have XC := Lib.hid HCB.out
      have XA := Lib.hid HAB.out
      have XB2 := Lib.hid OB.out
      have IC := Lib.hid (isS_of HCT.out (by rw [HCL.out]; omega))
      have IA := Lib.hid (isS_of HTA.out (by omega))
      have IB := Lib.hid (isS_of HTB.out (by omega))
      have C12 := Lib.hid (show c.length ≤ 12 by rw [HCL.out]; omega)
      have CS := Lib.hid (fun (W : World) => (show Calls Try.prog 18 #[.string { data := #[112, 105, 99, 107] }] W fun e w' => ∃ cp, e = .returned (.agg #[.int .i64 3, .int .i64 1, cp]) ∧ OwnI W.heap.size w' cp pickC ∧ Below W.heap.size W w' from by
        have q := isample_any { data := #[112, 105, 99, 107] } W
        rw [pick_prog] at q
        exact q.mono fun e w' ⟨v', he, ⟨cp, hv, ho⟩, hb⟩ => ⟨cp, by rw [he, hv], ho, hb⟩))
      obtain ⟨al, hale⟩ : ∃ z, z = a.length := ⟨_, rfl⟩
      obtain ⟨bl2, hble⟩ : ∃ z, z = b.length := ⟨_, rfl⟩
      rw [← hale] at XA SA hal ⊢
      rw [← hble] at XB2 SB hbl ⊢
      have HAE := Lib.hid hale
      have HBE := Lib.hid hble
      obtain ⟨i0, hi, hz0, hz1, hz2⟩ := info_parts info
      have ST := Lib.hid (pickSt_start c a b)
      have HW0 := Lib.hid ((Below.refl WB.heap.size WB).al (.cells #[] 3))
      have HO0 := Lib.hid (show Own WB.heap.size (WB.alloc (.cells #[] 3)) (.slice (some ⟨WB.heap.size, 0, none⟩) 0 0) [] from lit0 WB)
      clear hale hble HCB HAB OB HCC HCF HAF
      go_wp2_with fail
      go_loopw [7, 8, 9, 44] (fun o s8 s9 i wr => ∃ (j ia ib : Nat) (L : List Int), j ≤ cl ∧ i = .int .i64 j ∧ s8 = .int .i64 ia ∧ s9 = .int .i64 ib ∧ L.length ≤ j ∧ ia ≤ al ∧ ib ≤ bl2 ∧ Hid (Own WB.heap.size wr o L) ∧ Hid (pickSt c a b j ia ib L) ∧ Hid (Below WB.heap.size WB wr)) (fun _ _ _ i _ => cl - (intOf i).toNat)
      case atStart => exact ⟨0, 0, 0, [], Nat.zero_le _, rfl, rfl, rfl, Nat.le_refl _, Nat.zero_le _, Nat.zero_le _, HO0, ST, HW0⟩
      case round =>
        clear HO0 ST HW0
        obtain ⟨j, ia, ib, L, hj, rfl, rfl, rfl, hLj, hia, hib, HO, HP, HW⟩ := hrel
        have hs3 := HW.out.size
        by_cases hjl : j < cl
        · obtain ⟨g, cap, hv, hg0, hg1, hcell, _⟩ := own_at (XC.out.below HW.out) HCL.out hjl
          simp only [Value.slice.injEq, true_and] at hv
          obtain ⟨rfl, rfl⟩ := hv
          have lj2 : (j : Int) < (cl : Int) := by omega
          obtain ⟨x, hx⟩ : ∃ z, z = c.getD j 0 := ⟨_, rfl⟩
          rw [← hx] at hcell
          have HX := Lib.hid hx
          have HJC := Lib.hid (show j < c.length by rw [HCL.out]; exact hjl)
          clear hx
          by_cases hz : x = 0
          · have HZ := Lib.hid (show c.getD j 0 = 0 by rw [← HX.out]; exact hz)
            subst hz
            by_cases hi2 : ia = al
            · have d1 : ((ia : Int) == (al : Int)) = true := by simp; omega
              have HI2 := Lib.hid (show ia = a.length by rw [hi2]; exact HAE.out)
              have TOT := Lib.hid (pickSt_a0 HP.out HJC.out HZ.out HI2.out)
              have QC := Lib.hid (SC.out.below HW.out)
              have QA := Lib.hid (SA.out.below HW.out)
              have QB := Lib.hid (SB.out.below HW.out)
              have QL := Lib.hid HO.out.sl
              have QW := Lib.hid (HBB.out.trans (HW.out.mono HBB.out.size))
              go_wp2_with (first
                | (go_at_call 21; refine (ints_ok _ _ L _ XS.out (QL2.out)).mono ?_; rintro e W4 ⟨rfl, hb4⟩; have QW4 := Lib.hid (QW3.out.trans (hb4.mono QW3.out.size)); have u1 := (hb4.cell (p := ⟨gu, 1, none⟩) XG.out).trans XU1.out; have u2 := (hb4.cell (p := ⟨gu, 2, none⟩) XG.out).trans XU2.out; have ug : gu < W4.heap.size := Nat.lt_of_lt_of_le XG.out hb4.size; clear hb4)
                | (go_at_call 17; refine (pick_any _ _ c a b L ia ib _ (QP.out.below ((Below.refl _ _).al _)) (slr3 (hp1 _ _) (QC1.out.below ((Below.refl _ _).al _)) (QA1.out.below ((Below.refl _ _).al _)) (QB1.out.below ((Below.refl _ _).al _))) IC.out IA.out IB.out C12.out TOT.out).mono ?_; rintro e W3 ⟨xv, gu, ku, XB, rfl, xh, xs, xg, xu1, xu2, xb⟩; have xc := cell_of xh 0; have xl := lt_of xh; have XS := Lib.hid xs; have XG := Lib.hid xg; have XU1 := Lib.hid xu1; have XU2 := Lib.hid xu2; have hb3 := cr_1 xb; have QL2 := Lib.hid (QL1.out.below hb3); have QW3 := Lib.hid (QW1.out.trans (hb3.mono QW1.out.size)); have xc1 : W3.cell? ⟨XB, 0, none⟩ = some xv := (by rw [xc]; rfl); clear xh xs xg xu1 xu2 xb xc hb3)
                | (go_at_call 18; with_reducible refine (CS.out _).mono ?_; rintro e W1 ⟨cp, rfl, ho1, hb1⟩; have QP := Lib.hid ho1.sl; have QC1 := Lib.hid (QC.out.below hb1); have QA1 := Lib.hid (QA.out.below hb1); have QB1 := Lib.hid (QB.out.below hb1); have QL1 := Lib.hid (QL.out.below hb1); have QW1 := Lib.hid (QW.out.trans (hb1.mono QW.out.size)); clear ho1 hb1))
              go_ret
              exact ⟨rfl, QW4.out⟩
            · have d1 : ((ia : Int) == (al : Int)) = false := by simp; omega
              have hlt2 : ia < al := by omega
              have li2 : (ia : Int) < (al : Int) := by omega
              obtain ⟨g2, cap2, hv2, _, hg2, hcell2, _⟩ := own_at (XA.out.below HW.out) HAE.out.symm hlt2
              simp only [Value.slice.injEq, true_and] at hv2
              obtain ⟨rfl, rfl⟩ := hv2
              obtain ⟨y, hy⟩ : ∃ z, z = a.getD ia 0 := ⟨_, rfl⟩
              rw [← hy] at hcell2
              have HP2 := Lib.hid (show pickSt c a b (j + 1) (ia + 1) ib (L ++ [y]) by rw [hy]; exact pickSt_a1 HP.out HJC.out HZ.out (by rw [← HAE.out]; exact hlt2))
              clear hy
              go_wp2_with (at_builtin; refine wpList_append_own_at _ rfl _ _ 23 rfl WB.heap.size 3 i0 (.int .i64 0) 1 8 Try.underlying23 hi hz0 hz1 hz2 rfl (by decide) _ _ _ rfl (World.ownsRow.alloc HO.out _) ⟨wr.heap.size, 0, none⟩ 1 1 [.int .i64 y] rfl rfl (one_src _ _) (one_one _) ?c3 ?c4 ?c5 ?_)
              case c3 => unfold maxLen; omega
              case c4 => omega
              case c5 => simp; omega
              intro v' w1 hown hgrow _ hat
              have HR2 := Lib.hid (app_rel HW.out hs3 (Nat.le_refl _) HO.out hown hgrow)
              clear hown hgrow hat
              go_wp2_with fail
              go_roundw
              case rel => exact ⟨j + 1, ia + 1, ib, L ++ [y], by omega, by go_num, by go_num, rfl, by rw [List.length_append]; simp; omega, by omega, hib, Lib.hid HR2.out.1, HP2, Lib.hid HR2.out.2⟩
              case measure => simp [intOf]; omega
          · have HZ := Lib.hid (show c.getD j 0 ≠ 0 by rw [← HX.out]; exact hz)
            have dz : (x == 0) = false := by simpa using hz
            by_cases hi2 : ib = bl2
            · have d1 : ((ib : Int) == (bl2 : Int)) = true := by simp; omega
              have HI2 := Lib.hid (show ib = b.length by rw [hi2]; exact HBE.out)
              have TOT := Lib.hid (pickSt_b0 HP.out HJC.out HZ.out HI2.out)
              have QC := Lib.hid (SC.out.below HW.out)
              have QA := Lib.hid (SA.out.below HW.out)
              have QB := Lib.hid (SB.out.below HW.out)
              have QL := Lib.hid HO.out.sl
              have QW := Lib.hid (HBB.out.trans (HW.out.mono HBB.out.size))
              go_wp2_with (first
                | (go_at_call 21; refine (ints_ok _ _ L _ XS.out (QL2.out)).mono ?_; rintro e W4 ⟨rfl, hb4⟩; have QW4 := Lib.hid (QW3.out.trans (hb4.mono QW3.out.size)); have u1 := (hb4.cell (p := ⟨gu, 1, none⟩) XG.out).trans XU1.out; have u2 := (hb4.cell (p := ⟨gu, 2, none⟩) XG.out).trans XU2.out; have ug : gu < W4.heap.size := Nat.lt_of_lt_of_le XG.out hb4.size; clear hb4)
                | (go_at_call 17; refine (pick_any _ _ c a b L ia ib _ (QP.out.below ((Below.refl _ _).al _)) (slr3 (hp1 _ _) (QC1.out.below ((Below.refl _ _).al _)) (QA1.out.below ((Below.refl _ _).al _)) (QB1.out.below ((Below.refl _ _).al _))) IC.out IA.out IB.out C12.out TOT.out).mono ?_; rintro e W3 ⟨xv, gu, ku, XB, rfl, xh, xs, xg, xu1, xu2, xb⟩; have xc := cell_of xh 0; have xl := lt_of xh; have XS := Lib.hid xs; have XG := Lib.hid xg; have XU1 := Lib.hid xu1; have XU2 := Lib.hid xu2; have hb3 := cr_1 xb; have QL2 := Lib.hid (QL1.out.below hb3); have QW3 := Lib.hid (QW1.out.trans (hb3.mono QW1.out.size)); have xc1 : W3.cell? ⟨XB, 0, none⟩ = some xv := (by rw [xc]; rfl); clear xh xs xg xu1 xu2 xb xc hb3)
                | (go_at_call 18; with_reducible refine (CS.out _).mono ?_; rintro e W1 ⟨cp, rfl, ho1, hb1⟩; have QP := Lib.hid ho1.sl; have QC1 := Lib.hid (QC.out.below hb1); have QA1 := Lib.hid (QA.out.below hb1); have QB1 := Lib.hid (QB.out.below hb1); have QL1 := Lib.hid (QL.out.below hb1); have QW1 := Lib.hid (QW.out.trans (hb1.mono QW.out.size)); clear ho1 hb1))
              go_ret
              exact ⟨rfl, QW4.out⟩
            · have d1 : ((ib : Int) == (bl2 : Int)) = false := by simp; omega
              have hlt2 : ib < bl2 := by omega
              have li2 : (ib : Int) < (bl2 : Int) := by omega
              obtain ⟨g2, cap2, hv2, _, hg2, hcell2, _⟩ := own_at (XB2.out.below HW.out) HBE.out.symm hlt2
              simp only [Value.slice.injEq, true_and] at hv2
              obtain ⟨rfl, rfl⟩ := hv2
              obtain ⟨y, hy⟩ : ∃ z, z = b.getD ib 0 := ⟨_, rfl⟩
              rw [← hy] at hcell2
              have HP2 := Lib.hid (show pickSt c a b (j + 1) ia (ib + 1) (L ++ [y]) by rw [hy]; exact pickSt_b1 HP.out HJC.out HZ.out (by rw [← HBE.out]; exact hlt2))
              clear hy
              go_wp2_with (at_builtin; refine wpList_append_own_at _ rfl _ _ 23 rfl WB.heap.size 3 i0 (.int .i64 0) 1 8 Try.underlying23 hi hz0 hz1 hz2 rfl (by decide) _ _ _ rfl (World.ownsRow.alloc HO.out _) ⟨wr.heap.size, 0, none⟩ 1 1 [.int .i64 y] rfl rfl (one_src _ _) (one_one _) ?c3 ?c4 ?c5 ?_)
              case c3 => unfold maxLen; omega
              case c4 => omega
              case c5 => simp; omega
              intro v' w1 hown hgrow _ hat
              have HR2 := Lib.hid (app_rel HW.out hs3 (Nat.le_refl _) HO.out hown hgrow)
              clear hown hgrow hat
              go_wp2_with fail
              go_roundw
              case rel => exact ⟨j + 1, ia, ib + 1, L ++ [y], by omega, by go_num, rfl, by go_num, by rw [List.length_append]; simp; omega, hia, by omega, Lib.hid HR2.out.1, HP2, Lib.hid HR2.out.2⟩
              case measure => simp [intOf]; omega
        · have TOT := Lib.hid (pickSt_end HP.out (by rw [HCL.out]; exact hjl))
          have QC := Lib.hid (SC.out.below HW.out)
          have QA := Lib.hid (SA.out.below HW.out)
          have QB := Lib.hid (SB.out.below HW.out)
          have QL := Lib.hid HO.out.sl
          have QW := Lib.hid (HBB.out.trans (HW.out.mono HBB.out.size))
          go_wp2_with (first
            | (go_at_call 21; refine (ints_ok _ _ L _ XS.out (QL2.out)).mono ?_; rintro e W4 ⟨rfl, hb4⟩; have QW4 := Lib.hid (QW3.out.trans (hb4.mono QW3.out.size)); have u1 := (hb4.cell (p := ⟨gu, 1, none⟩) XG.out).trans XU1.out; have u2 := (hb4.cell (p := ⟨gu, 2, none⟩) XG.out).trans XU2.out; have ug : gu < W4.heap.size := Nat.lt_of_lt_of_le XG.out hb4.size; clear hb4)
            | (go_at_call 17; refine (pick_any _ _ c a b L ia ib _ (QP.out.below ((Below.refl _ _).al _)) (slr3 (hp1 _ _) (QC1.out.below ((Below.refl _ _).al _)) (QA1.out.below ((Below.refl _ _).al _)) (QB1.out.below ((Below.refl _ _).al _))) IC.out IA.out IB.out C12.out TOT.out).mono ?_; rintro e W3 ⟨xv, gu, ku, XB, rfl, xh, xs, xg, xu1, xu2, xb⟩; have xc := cell_of xh 0; have xl := lt_of xh; have XS := Lib.hid xs; have XG := Lib.hid xg; have XU1 := Lib.hid xu1; have XU2 := Lib.hid xu2; have hb3 := cr_1 xb; have QL2 := Lib.hid (QL1.out.below hb3); have QW3 := Lib.hid (QW1.out.trans (hb3.mono QW1.out.size)); have xc1 : W3.cell? ⟨XB, 0, none⟩ = some xv := (by rw [xc]; rfl); clear xh xs xg xu1 xu2 xb xc hb3)
            | (go_at_call 18; with_reducible refine (CS.out _).mono ?_; rintro e W1 ⟨cp, rfl, ho1, hb1⟩; have QP := Lib.hid ho1.sl; have QC1 := Lib.hid (QC.out.below hb1); have QA1 := Lib.hid (QA.out.below hb1); have QB1 := Lib.hid (QB.out.below hb1); have QL1 := Lib.hid (QL.out.below hb1); have QW1 := Lib.hid (QW.out.trans (hb1.mono QW.out.size)); clear ho1 hb1))
          go_ret
          exact ⟨rfl, QW4.out⟩
theorem fnPicked_walk {v : Value} {bs : List Int} (w : World) (h : Sb w v bs) :
    Calls Try.prog 7 #[v] w fun e w' => e = .returned (.bool true) ∧ Below w.heap.size w w' := by
  obtain ⟨a, cap, rfl, r⟩ := h
  by_cases hs : bs.length ≤ 1048576
  · exact fnPicked_core a cap bs w ⟨a, cap, rfl, r⟩ hs
  · have b0 : bs.length ≤ 9223372036854775807 := by have := r.1; have := r.2.1; unfold maxLen at this; omega
    clear r
    go_enter Try.func7, Try.ntmps7
    go_wp2_with fail
    go_ret
    exact ⟨rfl, Below.refl _ _⟩
end Go.Proofs.Ytfjmebggghkehaa
