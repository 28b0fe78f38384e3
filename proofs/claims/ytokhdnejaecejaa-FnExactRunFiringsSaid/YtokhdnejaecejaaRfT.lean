/-
  What tokensAtFirst and l7Tokens answer. No statement of the seat is proved here.
-/
import Derived.Test.YtokhdnejaecejaaRfM
namespace Go.Proofs.Ytokhdnejaecejaa
open Go.RowKit

set_option maxRecDepth 100000 in
set_option maxHeartbeats 4000000 in
theorem itok0_any (n : Int) (c : Value) (es : List Edg) (w : World) (h : SlEd w c es) (hl : es.length ≤ 1000000) :
    Calls Try.prog 65 #[.agg #[.int .i64 n, c]] w fun e w' => ∃ v', e = .returned v' ∧ Own w.heap.size w' v' (tok0 es) ∧ Below w.heap.size w w' := by
  obtain ⟨a, cap, rfl, _, _, _, hrest⟩ := h
  obtain ⟨m, hmm⟩ : ∃ m, m = es.length := ⟨_, rfl⟩
  rw [← hmm] at hl ⊢
  have HM := Lib.hid hmm
  clear hmm
  obtain ⟨i0, hi, hz0, hz1, hz2⟩ := info_parts info
  go_enter Try.func65, Try.ntmps65
  go_upto_region 1 with fail
  have hb0 := (Below.refl w.heap.size w).al (.cells #[.int .i64 n, .slice a m cap] 29)
  have hh0 := hp1 w (.cells #[.int .i64 n, .slice a m cap] 29)
  generalize hw0 : w.alloc (.cells #[.int .i64 n, .slice a m cap] 29) = w0
  rw [hw0] at hb0 hh0
  clear hw0
  have HB0 := Lib.hid hb0
  have HG0 := Lib.hid hh0
  have hs0 := lt_of hh0
  obtain ⟨g0, g1⟩ := cells2 hh0
  clear hb0 hh0
  go_wp2_with (at_make; refine wpList_make_full _ rfl _ _ 33 rfl w0.heap.size 3 i0 (.int .i64 0) 1 Try.underlying33 hi hz0 hz1 _ _ _ _ m rfl rfl rfl rfl ?b2 ?b3 ?b4 ?_)
  case b2 => rw [hz2]; omega
  case b3 => unfold maxLen; omega
  case b4 => exact Nat.le_refl _
  intro w1 hown hgrow
  have hb1 := (Below.refl w0.heap.size w0).grown hgrow (Nat.le_refl _) (by simp)
  have HB1 := Lib.hid (HB0.out.trans (hb1.mono HB0.out.size))
  have HG1 := Lib.hid (blk_in HG0.out hb1)
  have HO1 := Lib.hid (show w1.ownsRow w0.heap.size 3 1 (.slice (some ⟨w0.heap.size, 0, none⟩) m m) m (vals (fill (tok0 es) 0)) by
    have := made_fill (w1 := w1) (B := w0.heap.size) (v := .slice (some ⟨w0.heap.size, 0, none⟩) m m) (xs := tok0 es) (by rw [tok0_len, ← HM.out]; exact hown)
    rw [tok0_len, ← HM.out] at this
    exact this)
  clear g0 g1 hgrow hown hi hz0 hz1 hz2 hb1
  obtain ⟨g0, g1⟩ := cells2 HG1.out
  have lg := lt_of HG1.out
  go_wp2_with fail
  clear g0 g1 lg
  go_loopw [13] (fun i wr => ∃ k : Nat, k ≤ m ∧ i = .int .i64 k ∧ Hid (wr.ownsRow w0.heap.size 3 1 (.slice (some ⟨w0.heap.size, 0, none⟩) m m) m (vals (fill (tok0 es) k))) ∧ Hid (Below w.heap.size w wr)) (fun i _ => m - (intOf i).toNat)
  case atStart => exact ⟨0, Nat.zero_le _, rfl, HO1, HB1⟩
  case round =>
    obtain ⟨k, hk, rfl, HO, HB⟩ := hrel
    by_cases hlt : k < m
    · rcases hrest with rfl | ⟨b, off, rfl, hbl, hcell⟩
      · exact absurd hlt (by have := HM.out; simp at this; omega)
      ·
        obtain ⟨x, hx⟩ : ∃ x, es[k]? = some x := ⟨_, List.getElem?_eq_getElem (by rw [← HM.out]; exact hlt)⟩
        obtain ⟨e0, e1, e2, e3, e4⟩ := hcell k x hx
        have c0 := (HB.out.cell (p := ⟨b, off + k * 5, none⟩) hbl).trans e0
        have c1 := (HB.out.cell (p := ⟨b, off + k * 5 + 1, none⟩) hbl).trans e1
        have c2 := (HB.out.cell (p := ⟨b, off + k * 5 + 2, none⟩) hbl).trans e2
        have c3 := (HB.out.cell (p := ⟨b, off + k * 5 + 3, none⟩) hbl).trans e3
        have c4 := (HB.out.cell (p := ⟨b, off + k * 5 + 4, none⟩) hbl).trans e4
        have hbl2 : b < wr.heap.size := Nat.lt_of_lt_of_le hbl HB.out.size
        have HX := Lib.hid hx
        have hb1 := (Below.refl wr.heap.size wr).al (.cells #[.int .i64 x.fr, .int .i64 x.to, .int .i64 x.mke, .int .i64 x.tk, .int .i64 x.tok] 62)
        have HB1 := Lib.hid (HB.out.trans (hb1.mono HB.out.size))
        have HX1 := Lib.hid (hp1 wr (.cells #[.int .i64 x.fr, .int .i64 x.to, .int .i64 x.mke, .int .i64 x.tk, .int .i64 x.tok] 62))
        have HO2 := Lib.hid (row_below HO.out hb1)
        have hck3 : ∃ y, wr.cell? ⟨w0.heap.size, k, none⟩ = some y := by
          rw [HO.out.cellAt k (by omega), List.getElem?_eq_getElem (by rw [vals_len, fill_len (by rw [tok0_len, ← HM.out]; exact hk), tok0_len, ← HM.out]; exact hlt)]; exact ⟨_, rfl⟩
        obtain ⟨y, hy⟩ := hck3
        have hgr : w0.heap.size < wr.heap.size := (World.ownsRow.lt HO.out _ rfl).2
        have HY2 := Lib.hid ((hb1.cell (p := ⟨w0.heap.size, k, none⟩) hgr).trans hy)
        clear hx hcell e0 e1 e2 e3 e4 hy hb1
        go_upto_region 5 with fail
        generalize hw4 : wr.alloc (.cells #[.int .i64 x.fr, .int .i64 x.to, .int .i64 x.mke, .int .i64 x.tk, .int .i64 x.tok] 62) = w4
        rw [hw4] at HB1 HO2 HY2 HX1
        obtain ⟨y0, y1, y2, y3, y4⟩ := cells5 HX1.out
        have ly := lt_of HX1.out
        have k1 := HO2.out.frozenAt k
        have k2 := HY2.out
        have k3 : w0.heap.size < w4.heap.size := (World.ownsRow.lt HO2.out _ rfl).2
        clear hw4 c0 c1 c2 c3 c4 hgr
        go_wp2_with fail
        go_roundw
        case rel =>
          have R := HO2.out.stored k (.int .i64 x.tok)
          rw [fill_step (by rw [tok0_len, ← HM.out]; exact hlt) (tok0_getD HX.out).symm] at R
          exact ⟨k + 1, by omega, by go_num, Lib.hid R.1, Lib.hid (HB1.out.setCell (p := ⟨w0.heap.size, k, none⟩) (by have := HB0.out.size; show w.heap.size ≤ w0.heap.size; omega) _)⟩
        case measure => simp [intOf]; omega
    · go_wp2_with fail
      go_ret
      have hO := HO.out
      rw [fill_all (tok0 es) (by rw [tok0_len, ← HM.out]; exact hlt)] at hO
      refine ⟨_, rfl, ?_, HB.out⟩
      unfold Own
      rw [tok0_len, ← HM.out]
      exact row_mono hO (by have := HB0.out.size; omega)

set_option maxRecDepth 100000 in
set_option maxHeartbeats 4000000 in
theorem stok0_any (n : Int) (c : Value) (es : List Edg) (w : World) (h : SlEd w c es) (hl : es.length ≤ 1000000) :
    Calls Try.prog 64 #[.agg #[.int .i64 n, c]] w fun e w' => ∃ v', e = .returned v' ∧ Own w.heap.size w' v' (tok0 es) ∧ Below w.heap.size w w' := by
  obtain ⟨a, cap, rfl, _, _, _, hrest⟩ := h
  obtain ⟨m, hmm⟩ : ∃ m, m = es.length := ⟨_, rfl⟩
  rw [← hmm] at hl ⊢
  have HM := Lib.hid hmm
  clear hmm
  obtain ⟨i0, hi, hz0, hz1, hz2⟩ := info_parts info
  go_enter Try.func64, Try.ntmps64
  go_upto_region 1 with fail
  have hb0 := (Below.refl w.heap.size w).al (.cells #[.int .i64 n, .slice a m cap] 29)
  have hh0 := hp1 w (.cells #[.int .i64 n, .slice a m cap] 29)
  generalize hw0 : w.alloc (.cells #[.int .i64 n, .slice a m cap] 29) = w0
  rw [hw0] at hb0 hh0
  clear hw0
  have HB0 := Lib.hid hb0
  have HG0 := Lib.hid hh0
  have hs0 := lt_of hh0
  have HL0 := Lib.hid (lit0 w0)
  have hb1 := hb0.al (.cells #[] 3)
  have HB1 := Lib.hid hb1
  have HG1 := Lib.hid (blk_in hh0 ((Below.refl w0.heap.size w0).al (.cells #[] 3)))
  obtain ⟨g0, g1⟩ := cells2 hh0
  clear hb0 hh0 hb1
  go_wp2_with fail
  go_loopw [3, 10] (fun u i wr => ∃ k : Nat, k ≤ m ∧ i = .int .i64 k ∧ Hid (Own w0.heap.size wr u ((tok0 es).take k)) ∧ Hid (Below w.heap.size w wr) ∧ Hid (w0.heap.size ≤ wr.heap.size)) (fun _ i _ => m - (intOf i).toNat)
  case atStart => exact ⟨0, Nat.zero_le _, rfl, Lib.hid (by have := HL0.out; simpa [Own, vals] using this), HB1, Lib.hid (by simp)⟩
  case round =>
    clear g0 g1
    obtain ⟨k, hk, rfl, HO, HB, HS0⟩ := hrel
    by_cases hlt : k < m
    · rcases hrest with rfl | ⟨b, off, rfl, hbl, hcell⟩
      · exact absurd hlt (by have := HM.out; simp at this; omega)
      ·
        obtain ⟨x, hx⟩ : ∃ x, es[k]? = some x := ⟨_, List.getElem?_eq_getElem (by rw [← HM.out]; exact hlt)⟩
        obtain ⟨e0, e1, e2, e3, e4⟩ := hcell k x hx
        have c0 := (HB.out.cell (p := ⟨b, off + k * 5, none⟩) hbl).trans e0
        have c1 := (HB.out.cell (p := ⟨b, off + k * 5 + 1, none⟩) hbl).trans e1
        have c2 := (HB.out.cell (p := ⟨b, off + k * 5 + 2, none⟩) hbl).trans e2
        have c3 := (HB.out.cell (p := ⟨b, off + k * 5 + 3, none⟩) hbl).trans e3
        have c4 := (HB.out.cell (p := ⟨b, off + k * 5 + 4, none⟩) hbl).trans e4
        have hbl2 : b < wr.heap.size := Nat.lt_of_lt_of_le hbl HB.out.size
        have HX := Lib.hid hx
        have hb1 := (Below.refl wr.heap.size wr).al (.cells #[.int .i64 x.fr, .int .i64 x.to, .int .i64 x.mke, .int .i64 x.tk, .int .i64 x.tok] 62)
        have HB1 := Lib.hid (HB.out.trans (hb1.mono HB.out.size))
        have HX1 := Lib.hid (hp1 wr (.cells #[.int .i64 x.fr, .int .i64 x.to, .int .i64 x.mke, .int .i64 x.tk, .int .i64 x.tok] 62))
        have HO2 := Lib.hid (HO.out.below hb1)
        clear hx hcell e0 e1 e2 e3 e4 hb1
        obtain ⟨xs, hxs⟩ : ∃ L, L = (tok0 es).take k := ⟨_, rfl⟩
        rw [← hxs] at HO HO2
        have HLE := Lib.hid hxs
        have hlen : xs.length = k := by rw [hxs, List.length_take, tok0_len, ← HM.out]; omega
        obtain ⟨va, vc, rfl⟩ := HO.out.shape
        have HVN := Lib.hid hlen
        rw [hlen] at HO HO2 ⊢
        clear hxs hlen
        go_upto_region 5 with fail
        generalize hw4 : wr.alloc (.cells #[.int .i64 x.fr, .int .i64 x.to, .int .i64 x.mke, .int .i64 x.tk, .int .i64 x.tok] 62) = w4
        rw [hw4] at HB1 HO2 HX1
        obtain ⟨y0, y1, y2, y3, y4⟩ := cells5 HX1.out
        have ly := lt_of HX1.out
        have hs4 : w.heap.size ≤ w4.heap.size := HB1.out.size
        have h04 : w0.heap.size ≤ w4.heap.size := by rw [← hw4]; have := HS0.out; simp; omega
        clear hw4 c0 c1 c2 c3 c4
        go_wp2_with (at_builtin; refine wpList_append_own_at _ rfl _ _ 33 rfl w0.heap.size 3 i0 (.int .i64 0) 1 8 Try.underlying33 hi hz0 hz1 hz2 rfl (by decide) _ _ _ rfl (World.ownsRow.alloc (show w4.ownsRow w0.heap.size 3 1 (.slice va k vc) k (vals xs) by have := HO2.out; unfold Own at this; rw [HVN.out] at this; exact this) _) ⟨w4.heap.size, 0, none⟩ 1 1 [.int .i64 x.tok] rfl rfl (one_src _ _) (one_one _) ?c3 ?c4 ?c5 ?_)
        case c3 => unfold maxLen; omega
        case c4 => omega
        case c5 => simp; omega
        intro v' w5 hown hgrow _ hat
        have R := app_rel (B := w.heap.size) (L := xs) HB1.out hs4 (by have := HB0.out.size; omega) HO2.out (by rw [HVN.out]; exact hown) hgrow
        have HOW := Lib.hid R.1
        have HB5 := Lib.hid R.2
        have HS5 := Lib.hid (show w0.heap.size ≤ w5.heap.size by have := hgrow.size; simp at this; omega)
        clear hown hgrow hat R
        go_wp2_with fail
        go_roundw
        case rel => exact ⟨k + 1, by omega, by go_num, Lib.hid (by rw [List.take_add_one, tok0_at HX.out, ← HLE.out]; exact HOW.out), HB5, HS5⟩
        case measure => simp [intOf]; omega
    · have e : (tok0 es).take k = tok0 es := List.take_of_length_le (by rw [tok0_len, ← HM.out]; omega)
      rw [e] at HO
      obtain ⟨va, vc, rfl⟩ := HO.out.shape
      go_wp2_with fail
      go_ret
      exact ⟨_, rfl, HO.out.mono (by have := HB0.out.size; omega), HB.out⟩

end Go.Proofs.Ytokhdnejaecejaa
