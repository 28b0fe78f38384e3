/-
  Comparisons of networks by the law's own functions. No statement of the seat is proved here.
-/
import Derived.Test.YtjphamgkigekkaaNetTo
import Derived.Deep.RegionWith
import Derived.Deep.RegionHeld3
namespace Go.Proofs.Ytjphamgkigekkaa
open Go.RowKit


set_option maxRecDepth 100000 in
set_option maxHeartbeats 1600000 in
theorem eqLnk_ok (v u : Value) (l : Lnk) (w : World) (h : LnkV w v l) (k : LnkV w u l) :
    Calls Try.prog 118 #[v, u] w fun e w' => e = .returned (.bool true) ∧ Below w.heap.size w w' := by
  obtain ⟨c, rfl, hc⟩ := h
  obtain ⟨d, rfl, hd⟩ := k
  obtain ⟨f, o, t, i, tok⟩ := l
  simp only [] at hc hd ⊢
  obtain ⟨n, hn⟩ : ∃ n, n = tok.length := ⟨_, rfl⟩
  have HC := Lib.hid hc
  have HD := Lib.hid hd
  obtain ⟨a, cap, rfl, hrest⟩ := hc
  obtain ⟨a2, cap2, rfl, hrest2⟩ := hd
  clear hrest hrest2
  rw [← hn] at HC HD ⊢
  clear hn
  have hb := Lib.hid (((Below.refl w.heap.size w).al (.cells #[.int .i64 f, .int .i64 o, .int .i64 t, .int .i64 i, .slice a n cap] 82)).al (.cells #[.int .i64 f, .int .i64 o, .int .i64 t, .int .i64 i, .slice a2 n cap2] 82))
  go_enter Try.func118, Try.ntmps118
  go_wp2_with (go_at_call 34; refine (eqS_ok _ _ tok _ (HC.out.below (hb.out.mono (by simp))) (HD.out.below (hb.out.mono (by simp)))).mono ?_; rintro e w2 ⟨rfl, hb1⟩)
  go_ret
  exact ⟨rfl, hb.out.trans (hb1.mono (by simp; omega))⟩

set_option maxRecDepth 100000 in
set_option maxHeartbeats 1600000 in
theorem eqProgramS_ok (v u : Value) (xs : List Prg) (w : World) (h : SlP w v xs) (k : SlP w u xs) :
    Calls Try.prog 66 #[v, u] w fun e w' => e = .returned (.bool true) ∧ Below w.heap.size w w' := by
  obtain ⟨a, cap, rfl, hl, hm, hn, hc⟩ := h
  obtain ⟨a2, cap2, rfl, hl2, hm2, hn2, hc2⟩ := k
  have hm' : xs.length ≤ 9223372036854775807 := by unfold maxLen at hm; omega
  clear hm hn hm2 hn2 hl hl2
  obtain ⟨m, hmm⟩ : ∃ m, m = xs.length := ⟨_, rfl⟩
  rw [← hmm] at hm' ⊢
  have HM := Lib.hid hmm
  clear hmm
  go_enter Try.func66, Try.ntmps66
  go_wp2_with fail
  go_loopw [5] (fun i wr => ∃ k : Nat, k ≤ m ∧ i = .int .i64 k ∧ Hid (Below w.heap.size w wr)) (fun i _ => m - (intOf i).toNat)
  case atStart => exact ⟨0, Nat.zero_le _, rfl, Lib.hid (Below.refl _ _)⟩
  case round =>
    obtain ⟨k, hk, rfl, HB⟩ := hrel
    by_cases hlt : k < m
    · rcases hc with rfl | ⟨b, off, rfl, hbl, hcell⟩
      · exact absurd hlt (by have := HM.out; simp at this; omega)
      · rcases hc2 with rfl | ⟨b2, off2, rfl, hbl2, hcell2⟩
        · exact absurd hlt (by have := HM.out; simp at this; omega)
        · obtain ⟨x, hx⟩ : ∃ x, xs[k]? = some x := ⟨_, List.getElem?_eq_getElem (by rw [← HM.out]; exact hlt)⟩
          obtain ⟨u1, e0, e1, e2, ee⟩ := hcell k x hx
          obtain ⟨u2, f0, f1, f2, ff⟩ := hcell2 k x hx
          obtain ⟨ua, uc, e6⟩ := (ee).shape
          obtain ⟨ub, ud, f6⟩ := (ff).shape
          have HS := Lib.hid ((ee).below HB.out)
          have HT := Lib.hid ((ff).below HB.out)
          have c0 := (HB.out.cell (p := ⟨b, off + k * 3, none⟩) hbl).trans e0
          have c1 := (HB.out.cell (p := ⟨b, off + k * 3 + 1, none⟩) hbl).trans e1
          have c2 := (HB.out.cell (p := ⟨b, off + k * 3 + 2, none⟩) hbl).trans e2
          have d0 := (HB.out.cell (p := ⟨b2, off2 + k * 3, none⟩) hbl2).trans f0
          have d1 := (HB.out.cell (p := ⟨b2, off2 + k * 3 + 1, none⟩) hbl2).trans f1
          have d2 := (HB.out.cell (p := ⟨b2, off2 + k * 3 + 2, none⟩) hbl2).trans f2
          have hbk : b < wr.heap.size := Nat.lt_of_lt_of_le hbl HB.out.size
          have hbk2 : b2 < wr.heap.size := Nat.lt_of_lt_of_le hbl2 HB.out.size
          clear hx hcell hcell2 e0 e1 e2 f0 f1 f2 ee ff
          obtain ⟨pi, po, pc⟩ := x
          simp only [] at c0 c1 c2 d0 d1 d2 e6 f6 HS HT
          obtain ⟨ul, hul⟩ : ∃ z, z = pc.length := ⟨_, rfl⟩
          rw [← hul] at e6 f6
          clear hul
          subst e6
          subst f6
          have EC := Lib.hid (fun W (hw : Below wr.heap.size wr W) => eqPrg_ok (.agg #[.int .i64 pi, .int .i64 po, .slice ua ul uc]) (.agg #[.int .i64 pi, .int .i64 po, .slice ub ul ud]) ⟨pi, po, pc⟩ W ⟨_, rfl, HS.out.below hw⟩ ⟨_, rfl, HT.out.below hw⟩)
          go_wp2_with fail
          go_region_held3 (fun w' => w'.cell? ⟨b, off + k * 3, none⟩ = some (.int .i64 pi) ∧ w'.cell? ⟨b, off + k * 3 + 1, none⟩ = some (.int .i64 po) ∧ w'.cell? ⟨b, off + k * 3 + 2, none⟩ = some (.slice ua ul uc) ∧ w'.cell? ⟨b2, off2 + k * 3, none⟩ = some (.int .i64 pi) ∧ w'.cell? ⟨b2, off2 + k * 3 + 1, none⟩ = some (.int .i64 po) ∧ w'.cell? ⟨b2, off2 + k * 3 + 2, none⟩ = some (.slice ub ul ud)) (go_keep)
            (first | (go_at_call 117; refine (EC.out _ (by first | with_reducible exact Below.refl _ _ | with_reducible exact (Below.refl _ _).drew)).mono ?_; rintro e w2 ⟨rfl, hb1⟩; have HC1 := Lib.hid (show Below wr.heap.size wr w2 by first | with_reducible exact hb1 | with_reducible exact cr_d hb1); have c0' := (HC1.out.cell (p := ⟨b, off + k * 3, none⟩) hbk).trans c0; have c1' := (HC1.out.cell (p := ⟨b, off + k * 3 + 1, none⟩) hbk).trans c1; have c2' := (HC1.out.cell (p := ⟨b, off + k * 3 + 2, none⟩) hbk).trans c2; have d0' := (HC1.out.cell (p := ⟨b2, off2 + k * 3, none⟩) hbk2).trans d0; have d1' := (HC1.out.cell (p := ⟨b2, off2 + k * 3 + 1, none⟩) hbk2).trans d1; have d2' := (HC1.out.cell (p := ⟨b2, off2 + k * 3 + 2, none⟩) hbk2).trans d2; clear hb1))
          all_goals
            go_wp2_with fail
            go_roundw
            case rel => exact ⟨k + 1, by omega, by go_num, Lib.hid (HB.out.trans (HC1.out.mono HB.out.size))⟩
            case measure => simp [intOf]; omega
    · go_wp2_with fail
      go_ret
      exact ⟨rfl, HB.out⟩

set_option maxRecDepth 100000 in
set_option maxHeartbeats 1600000 in
theorem eqLinkS_ok (v u : Value) (xs : List Lnk) (w : World) (h : SlL w v xs) (k : SlL w u xs) :
    Calls Try.prog 67 #[v, u] w fun e w' => e = .returned (.bool true) ∧ Below w.heap.size w w' := by
  obtain ⟨a, cap, rfl, hl, hm, hn, hc⟩ := h
  obtain ⟨a2, cap2, rfl, hl2, hm2, hn2, hc2⟩ := k
  have hm' : xs.length ≤ 9223372036854775807 := by unfold maxLen at hm; omega
  clear hm hn hm2 hn2 hl hl2
  obtain ⟨m, hmm⟩ : ∃ m, m = xs.length := ⟨_, rfl⟩
  rw [← hmm] at hm' ⊢
  have HM := Lib.hid hmm
  clear hmm
  go_enter Try.func67, Try.ntmps67
  go_wp2_with fail
  go_loopw [5] (fun i wr => ∃ k : Nat, k ≤ m ∧ i = .int .i64 k ∧ Hid (Below w.heap.size w wr)) (fun i _ => m - (intOf i).toNat)
  case atStart => exact ⟨0, Nat.zero_le _, rfl, Lib.hid (Below.refl _ _)⟩
  case round =>
    obtain ⟨k, hk, rfl, HB⟩ := hrel
    by_cases hlt : k < m
    · rcases hc with rfl | ⟨b, off, rfl, hbl, hcell⟩
      · exact absurd hlt (by have := HM.out; simp at this; omega)
      · rcases hc2 with rfl | ⟨b2, off2, rfl, hbl2, hcell2⟩
        · exact absurd hlt (by have := HM.out; simp at this; omega)
        · obtain ⟨x, hx⟩ : ∃ x, xs[k]? = some x := ⟨_, List.getElem?_eq_getElem (by rw [← HM.out]; exact hlt)⟩
          obtain ⟨u1, e0, e1, e2, e3, e4, ee⟩ := hcell k x hx
          obtain ⟨u2, f0, f1, f2, f3, f4, ff⟩ := hcell2 k x hx
          obtain ⟨ua, uc, e6⟩ := (ee.2).shape
          obtain ⟨ub, ud, f6⟩ := (ff.2).shape
          have HS := Lib.hid ((ee.2).below HB.out)
          have HT := Lib.hid ((ff.2).below HB.out)
          have c0 := (HB.out.cell (p := ⟨b, off + k * 5, none⟩) hbl).trans e0
          have c1 := (HB.out.cell (p := ⟨b, off + k * 5 + 1, none⟩) hbl).trans e1
          have c2 := (HB.out.cell (p := ⟨b, off + k * 5 + 2, none⟩) hbl).trans e2
          have c3 := (HB.out.cell (p := ⟨b, off + k * 5 + 3, none⟩) hbl).trans e3
          have c4 := (HB.out.cell (p := ⟨b, off + k * 5 + 4, none⟩) hbl).trans e4
          have d0 := (HB.out.cell (p := ⟨b2, off2 + k * 5, none⟩) hbl2).trans f0
          have d1 := (HB.out.cell (p := ⟨b2, off2 + k * 5 + 1, none⟩) hbl2).trans f1
          have d2 := (HB.out.cell (p := ⟨b2, off2 + k * 5 + 2, none⟩) hbl2).trans f2
          have d3 := (HB.out.cell (p := ⟨b2, off2 + k * 5 + 3, none⟩) hbl2).trans f3
          have d4 := (HB.out.cell (p := ⟨b2, off2 + k * 5 + 4, none⟩) hbl2).trans f4
          have hbk : b < wr.heap.size := Nat.lt_of_lt_of_le hbl HB.out.size
          have hbk2 : b2 < wr.heap.size := Nat.lt_of_lt_of_le hbl2 HB.out.size
          clear hx hcell hcell2 e0 e1 e2 e3 e4 f0 f1 f2 f3 f4 ee ff
          obtain ⟨xf, xo, xt, xi, pc⟩ := x
          simp only [] at c0 c1 c2 c3 c4 d0 d1 d2 d3 d4 e6 f6 HS HT
          obtain ⟨ul, hul⟩ : ∃ z, z = pc.length := ⟨_, rfl⟩
          rw [← hul] at e6 f6
          clear hul
          subst e6
          subst f6
          have EC := Lib.hid (fun W (hw : Below wr.heap.size wr W) => eqLnk_ok (.agg #[.int .i64 xf, .int .i64 xo, .int .i64 xt, .int .i64 xi, .slice ua ul uc]) (.agg #[.int .i64 xf, .int .i64 xo, .int .i64 xt, .int .i64 xi, .slice ub ul ud]) ⟨xf, xo, xt, xi, pc⟩ W ⟨_, rfl, HS.out.below hw⟩ ⟨_, rfl, HT.out.below hw⟩)
          go_wp2_with fail
          go_region_held3 (fun w' => w'.cell? ⟨b, off + k * 5, none⟩ = some (.int .i64 xf) ∧ w'.cell? ⟨b, off + k * 5 + 1, none⟩ = some (.int .i64 xo) ∧ w'.cell? ⟨b, off + k * 5 + 2, none⟩ = some (.int .i64 xt) ∧ w'.cell? ⟨b, off + k * 5 + 3, none⟩ = some (.int .i64 xi) ∧ w'.cell? ⟨b, off + k * 5 + 4, none⟩ = some (.slice ua ul uc) ∧ w'.cell? ⟨b2, off2 + k * 5, none⟩ = some (.int .i64 xf) ∧ w'.cell? ⟨b2, off2 + k * 5 + 1, none⟩ = some (.int .i64 xo) ∧ w'.cell? ⟨b2, off2 + k * 5 + 2, none⟩ = some (.int .i64 xt) ∧ w'.cell? ⟨b2, off2 + k * 5 + 3, none⟩ = some (.int .i64 xi) ∧ w'.cell? ⟨b2, off2 + k * 5 + 4, none⟩ = some (.slice ub ul ud)) (go_keep)
            (first | (go_at_call 118; refine (EC.out _ (by first | with_reducible exact Below.refl _ _ | with_reducible exact (Below.refl _ _).drew)).mono ?_; rintro e w2 ⟨rfl, hb1⟩; have HC1 := Lib.hid (show Below wr.heap.size wr w2 by first | with_reducible exact hb1 | with_reducible exact cr_d hb1); have c0' := (HC1.out.cell (p := ⟨b, off + k * 5, none⟩) hbk).trans c0; have c1' := (HC1.out.cell (p := ⟨b, off + k * 5 + 1, none⟩) hbk).trans c1; have c2' := (HC1.out.cell (p := ⟨b, off + k * 5 + 2, none⟩) hbk).trans c2; have c3' := (HC1.out.cell (p := ⟨b, off + k * 5 + 3, none⟩) hbk).trans c3; have c4' := (HC1.out.cell (p := ⟨b, off + k * 5 + 4, none⟩) hbk).trans c4; have d0' := (HC1.out.cell (p := ⟨b2, off2 + k * 5, none⟩) hbk2).trans d0; have d1' := (HC1.out.cell (p := ⟨b2, off2 + k * 5 + 1, none⟩) hbk2).trans d1; have d2' := (HC1.out.cell (p := ⟨b2, off2 + k * 5 + 2, none⟩) hbk2).trans d2; have d3' := (HC1.out.cell (p := ⟨b2, off2 + k * 5 + 3, none⟩) hbk2).trans d3; have d4' := (HC1.out.cell (p := ⟨b2, off2 + k * 5 + 4, none⟩) hbk2).trans d4; clear hb1))
          all_goals
            go_wp2_with fail
            go_roundw
            case rel => exact ⟨k + 1, by omega, by go_num, Lib.hid (HB.out.trans (HC1.out.mono HB.out.size))⟩
            case measure => simp [intOf]; omega
    · go_wp2_with fail
      go_ret
      exact ⟨rfl, HB.out⟩

set_option maxRecDepth 100000 in
set_option maxHeartbeats 1600000 in
theorem eqNet_ok (v u : Value) (n : Net) (w : World) (h : NetV w v n) (k : NetV w u n) :
    Calls Try.prog 22 #[v, u] w fun e w' => e = .returned (.bool true) ∧ Below w.heap.size w w' := by
  obtain ⟨c, d, rfl, hp, hl⟩ := h
  obtain ⟨c2, d2, rfl, hq2, hl2⟩ := k
  obtain ⟨ps, ls⟩ := n
  simp only [] at hp hl hq2 hl2
  have HP := Lib.hid hp
  have HL := Lib.hid hl
  have HP2 := Lib.hid hq2
  have HL2 := Lib.hid hl2
  clear hp hl hq2 hl2
  have hb := Lib.hid (((Below.refl w.heap.size w).al (.cells #[c, d] 34)).al (.cells #[c2, d2] 34))
  have hH := Lib.hid (hp2 w (.cells #[c, d] 34) (.cells #[c2, d2] 34))
  have hH1 := Lib.hid (hp21 w (.cells #[c, d] 34) (.cells #[c2, d2] 34))
  go_enter Try.func22, Try.ntmps22
  go_wp2_with (first | (go_at_call 66; refine (eqProgramS_ok _ _ ps _ (HP.out.below hb.out) (HP2.out.below hb.out)).mono ?_; rintro e w2 ⟨rfl, hb1⟩; have B := blk_in hH.out hb1; have B1 := blk_in hH1.out hb1; obtain ⟨c0, c1⟩ := cells2 B; obtain ⟨a0, a1⟩ := cells2 B1; have HB2 := Lib.hid (hb.out.trans (hb1.mono (by simp; omega))); clear B B1 hb1) | (go_at_call 67; refine (eqLinkS_ok _ _ ls _ (HL.out.below HB2.out) (HL2.out.below HB2.out)).mono ?_; rintro e w3 ⟨rfl, hb3⟩; have HB3 := Lib.hid (HB2.out.trans (hb3.mono HB2.out.size)); clear hb3))
  go_ret
  exact ⟨rfl, HB3.out⟩
end Go.Proofs.Ytjphamgkigekkaa
