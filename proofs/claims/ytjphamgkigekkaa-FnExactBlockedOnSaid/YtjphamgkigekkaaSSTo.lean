/-
  Slices of slices of ints by the law's own functions: copies. No statement of the seat is proved here.
-/
import Derived.Test.YtjphamgkigekkaaNetTo
import Derived.Test.YtjphamgkigekkaaGrid
import Derived.Deep.RegionHeld3
namespace Go.Proofs.Ytjphamgkigekkaa
open Go.RowKit

/-- The row g of the call's own, of m rows, holds the first k of these, each laid behind it. -/
def RowsO (g m : Nat) (w : World) (xss : List (List Int)) (k : Nat) : Prop :=
  ∃ cs : List Value, w.ownsRow g 46 1 (.slice (some ⟨g, 0, none⟩) m m) m cs ∧ ∀ i xs, i < k → xss[i]? = some xs → ∃ c, cs[i]? = some c ∧ Own (g + 1) w c xs
theorem RowsO.below {g m k : Nat} {w w' : World} {xss : List (List Int)} (h : RowsO g m w xss k) (hb : Below w.heap.size w w') : RowsO g m w' xss k := by
  obtain ⟨cs, h1, h2⟩ := h
  refine ⟨cs, row_below h1 hb, fun i x hi hx => ?_⟩
  obtain ⟨c, hc⟩ := h2 i x hi hx
  exact ⟨c, hc.1, (hc.2).below hb⟩
theorem RowsO.cellZ {g m k : Nat} {w : World} {xss : List (List Int)} (h : RowsO g m w xss k) (hk : k < m) : w.frozen? ⟨g, k, none⟩ = false ∧ ∃ y, w.cell? ⟨g, k, none⟩ = some y := by
  obtain ⟨cs, h1, _⟩ := h
  have hl := h1.1
  exact ⟨h1.frozenAt _, by rw [h1.cellAt k (by omega), List.getElem?_eq_getElem (by omega)]; exact ⟨_, rfl⟩⟩
theorem RowsO.step {g m k : Nat} {w : World} {xss : List (List Int)} {xs : List Int} {c : Value} (h : RowsO g m w xss k) (hk : k < m) (hx : xss[k]? = some xs) (hc : Own (g + 1) w c xs) : RowsO g m (w.setCell ⟨g, k, none⟩ c) xss (k + 1) := by
  obtain ⟨cs, h1, h2⟩ := h
  have hl := h1.1
  have a0 := h1.stored k c
  refine ⟨_, a0.1, fun i y hi hy => ?_⟩
  by_cases e : i = k
  · subst e
    rw [hx] at hy
    obtain rfl := Option.some.inj hy
    exact ⟨c, set_hit _ _ _ (by omega), hc.setB (by show g < g + 1; omega) _⟩
  · obtain ⟨u, hu⟩ := h2 i y (by omega) hy
    exact ⟨u, by rw [set_keep _ _ _ _ (by omega)]; exact hu.1, hu.2.setB (by show g < g + 1; omega) _⟩
theorem RowsO.setB {g m k : Nat} {w : World} {xss : List (List Int)} (h : RowsO g m w xss k) {a : Addr} (ha : a.block < g) (u : Value) : RowsO g m (w.setCell a u) xss k := by
  obtain ⟨cs, h1, h2⟩ := h
  refine ⟨cs, ownsRow_setCell_below h1 ha u, fun i x hi hx => ?_⟩
  obtain ⟨c, hc⟩ := h2 i x hi hx
  exact ⟨c, hc.1, (hc.2).setB (by omega) u⟩
theorem rowltR {g m k : Nat} {w : World} {xss : List (List Int)} (h : RowsO g m w xss k) : g < w.heap.size := by
  obtain ⟨cs, h1, _⟩ := h
  exact (World.ownsRow.lt h1 g rfl).2
theorem RowsO.done {g m : Nat} {w : World} {xss : List (List Int)} (h : RowsO g m w xss m) (hm : xss.length = m) : SlR w (.slice (some ⟨g, 0, none⟩) m m) xss := by
  obtain ⟨cs, h1, h2⟩ := h
  have hcap : m ≤ maxLen := by
    rcases h1.2 with ⟨h', _⟩ | ⟨g', cap', cur, h', _, _, _, hcm, _⟩
    · simp at h'
    · simp only [Value.slice.injEq] at h'
      omega
  have hg : g < w.heap.size := (World.ownsRow.lt h1 g rfl).2
  refine ⟨some ⟨g, 0, none⟩, m, by rw [hm], by omega, hcap, (fun e => by cases e), .inr ⟨g, 0, rfl, hg, fun i x hi => ?_⟩⟩
  have hlt : i < m := by rw [← hm]; exact (List.getElem?_eq_some_iff.1 hi).1
  obtain ⟨c, hc⟩ := h2 i x hlt hi
  simp only [Nat.zero_add]
  exact ⟨c, (h1.cellAt _ (by omega)).trans (hc.1), (hc.2).sl⟩
theorem RowA.step1 {g hi k : Nat} {w : World} {c : Value} (h : RowA 1 g hi w k) (hc : ∃ y, w.cell? ⟨g, k, none⟩ = some y) (hl : ∀ q, c.ownBlock = some q → hi ≤ q ∧ q < w.heap.size) (hh : hi ≤ w.heap.size) :
    RowA 1 g (w.setCell ⟨g, k, none⟩ c).heap.size (w.setCell ⟨g, k, none⟩ c) (k + 1) := by
  rw [show (w.setCell ⟨g, k, none⟩ c).heap.size = w.heap.size by simp]
  refine h.step (fun i hi => ?_) ?_ hl hh
  · rw [cell_off _ (by omega)]
  · rw [show k * 1 + (1 - 1) = k by omega]
    exact cell_on _ hc

set_option maxRecDepth 100000 in
set_option maxHeartbeats 1600000 in
theorem toSS_any (v : Value) (xss : List (List Int)) (w : World) (h : SlR w v xss) (hs : xss.length ≤ 1048576) (hs2 : ∀ xs ∈ xss, xs.length ≤ 1048576) :
    Calls Try.prog 19 #[v] w fun e w' => e = .returned (.slice (some ⟨w.heap.size, 0, none⟩) xss.length xss.length) ∧ RowsO w.heap.size xss.length w' xss xss.length ∧ RowA 1 w.heap.size w'.heap.size w' xss.length ∧ Below w.heap.size w w' := by
  have HS2 := Lib.hid hs2
  obtain ⟨a, cap, rfl, hl, hm, hn, hc⟩ := h
  clear hm hn hl hs2
  obtain ⟨m, hmm⟩ : ∃ m, m = xss.length := ⟨_, rfl⟩
  rw [← hmm] at hs ⊢
  have HM := Lib.hid hmm
  clear hmm
  obtain ⟨i0, hi, hz0, hz1, hz2⟩ := infoS_parts
  go_enter Try.func19, Try.ntmps19
  go_wp2_with (at_make; refine wpList_make_full _ rfl _ _ 26 rfl w.heap.size 46 i0 (.slice none 0 0) 1 Try.underlying26 hi hz0 hz1 _ _ _ _ m rfl rfl rfl rfl ?b2 ?b3 ?b4 ?_)
  case b2 => rw [hz2]; omega
  case b3 => unfold maxLen; omega
  case b4 => exact Nat.le_refl _
  intro w1 hown hgrow
  have hb := Lib.hid ((Below.refl w.heap.size w).grown hgrow (Nat.le_refl _) (by simp))
  have HO := Lib.hid (show RowsO w.heap.size m w1 xss 0 from ⟨_, hown, fun i x hi => absurd hi (by omega)⟩)
  clear hgrow hi hz0 hz1 hz2 hown
  go_wp2_with fail
  go_loopw [4] (fun i wr => ∃ k : Nat, k ≤ m ∧ i = .int .i64 k ∧ Hid (RowsO w.heap.size m wr xss k) ∧ Hid (RowA 1 w.heap.size wr.heap.size wr k) ∧ Hid (Below w.heap.size w wr)) (fun i _ => m - (intOf i).toNat)
  case atStart => exact ⟨0, Nat.zero_le _, rfl, HO, Lib.hid (RowA.start _ _ _ _), hb⟩
  case round =>
    obtain ⟨k, hk, rfl, HR, HA, HB⟩ := hrel
    by_cases hlt : k < m
    · rcases hc with rfl | ⟨b, off, rfl, hbl, hcell⟩
      · exact absurd hlt (by have := HM.out; simp at this; omega)
      · obtain ⟨x, hx⟩ : ∃ x, xss[k]? = some x := ⟨_, List.getElem?_eq_getElem (by rw [← HM.out]; exact hlt)⟩
        obtain ⟨u, e0, ee⟩ := hcell k x hx
        have HS := Lib.hid (ee.below HB.out)
        have c0 := (HB.out.cell (p := ⟨b, off + k, none⟩) hbl).trans e0
        have hbl2 : b < wr.heap.size := Nat.lt_of_lt_of_le hbl HB.out.size
        have HX := Lib.hid hx
        have HSX := Lib.hid (HS2.out x (List.mem_of_getElem? hx))
        clear hx hcell e0 ee
        go_wp2_with (go_at_call 63; refine (toInt_any _ x _ HS.out HSX.out).mono ?_; rintro e w2 ⟨v', rfl, ho, hb1⟩; obtain ⟨ga, gc, rfl⟩ := ho.shape; have HU1 := Lib.hid ho.lt; have HSZ := Lib.hid hb1.size; have HA1 := Lib.hid (HA.out.below hb1 (rowltR HR.out)); have HO1 := Lib.hid (Own.mono (lo' := w.heap.size + 1) ho (by have h1 := HB.out.size; have h2 := rowltR HR.out; omega)); have HR1 := Lib.hid (HR.out.below hb1); have HB1 := Lib.hid (HB.out.trans (hb1.mono HB.out.size)); have Z := HR1.out.cellZ hlt; obtain ⟨z0, ⟨y0, k0⟩⟩ := Z; clear ho hb1)
        go_roundw
        case rel =>
          have q1 := HR1.out.step hlt HX.out HO1.out
          have q2 := HB1.out.setCell (p := ⟨w.heap.size, k, none⟩) (Nat.le_refl _) (.slice ga x.length gc)
          have q3 := HA1.out.step1 (c := .slice ga x.length gc) ⟨_, k0⟩ HU1.out HSZ.out
          exact ⟨k + 1, by omega, by go_num, Lib.hid q1, Lib.hid q3, Lib.hid q2⟩
        case measure => simp [intOf]; omega
    · go_wp2_with fail
      go_ret
      have := HR.out
      have hA := HA.out
      rw [show k = m by omega] at this hA
      exact ⟨rfl, this, hA, HB.out⟩

set_option maxRecDepth 100000 in
set_option maxHeartbeats 1600000 in
theorem eqSS_ok (v u : Value) (xss : List (List Int)) (w : World) (h : SlR w v xss) (k : SlR w u xss) :
    Calls Try.prog 21 #[v, u] w fun e w' => e = .returned (.bool true) ∧ Below w.heap.size w w' := by
  obtain ⟨a, cap, rfl, hl, hm, hn, hc⟩ := h
  obtain ⟨a2, cap2, rfl, hl2, hm2, hn2, hc2⟩ := k
  have hm' : xss.length ≤ 9223372036854775807 := by unfold maxLen at hm; omega
  clear hm hn hm2 hn2 hl hl2
  obtain ⟨m, hmm⟩ : ∃ m, m = xss.length := ⟨_, rfl⟩
  rw [← hmm] at hm' ⊢
  have HM := Lib.hid hmm
  clear hmm
  go_enter Try.func21, Try.ntmps21
  go_wp2_with fail
  go_loopw [5] (fun i wr => ∃ k : Nat, k ≤ m ∧ i = .int .i64 k ∧ Hid (Below w.heap.size w wr)) (fun i _ => m - (intOf i).toNat)
  case atStart => exact ⟨0, Nat.zero_le _, rfl, Lib.hid (Below.refl _ _)⟩
  case round =>
    obtain ⟨k, hk, rfl, HB⟩ := hrel
    by_cases hlt : k < m
    · rcases hc with rfl | ⟨b, off, rfl, hbl, hcell⟩
      · exact absurd hlt (by have := HM.out; simp at this; omega)
      · rcases hc2 with rfl | ⟨b2, off2, rfl, hbl2, hcell2⟩
        · exact absurd hlt (by have := HM.out; simp at this; omega)
        · obtain ⟨x, hx⟩ : ∃ x, xss[k]? = some x := ⟨_, List.getElem?_eq_getElem (by rw [← HM.out]; exact hlt)⟩
          obtain ⟨u1, e0, ee⟩ := hcell k x hx
          obtain ⟨u2, f0, ff⟩ := hcell2 k x hx
          have c0 := (HB.out.cell (p := ⟨b, off + k, none⟩) hbl).trans e0
          have d0 := (HB.out.cell (p := ⟨b2, off2 + k, none⟩) hbl2).trans f0
          have hbk : b < wr.heap.size := Nat.lt_of_lt_of_le hbl HB.out.size
          have hbk2 : b2 < wr.heap.size := Nat.lt_of_lt_of_le hbl2 HB.out.size
          have HS := Lib.hid (ee.below HB.out)
          have HT := Lib.hid (ff.below HB.out)
          clear hx hcell hcell2 e0 f0 ee ff
          have EC := Lib.hid (fun W (hw : Below wr.heap.size wr W) => eqS_ok u1 u2 x W (HS.out.below hw) (HT.out.below hw))
          go_wp2_with fail
          go_region_held3 (fun w' => w'.cell? ⟨b, off + k, none⟩ = some u1 ∧ w'.cell? ⟨b2, off2 + k, none⟩ = some u2) (go_keep)
            (first | (go_at_call 34; refine (EC.out _ (by first | with_reducible exact Below.refl _ _ | with_reducible exact (Below.refl _ _).drew)).mono ?_; rintro e w2 ⟨rfl, hb1⟩; have HC1 := Lib.hid (show Below wr.heap.size wr w2 by first | with_reducible exact hb1 | with_reducible exact cr_d hb1); have c0' := (HC1.out.cell (p := ⟨b, off + k, none⟩) hbk).trans c0; have d0' := (HC1.out.cell (p := ⟨b2, off2 + k, none⟩) hbk2).trans d0; clear hb1))
          all_goals
            go_wp2_with fail
            go_roundw
            case rel => exact ⟨k + 1, by omega, by go_num, Lib.hid (HB.out.trans (HC1.out.mono HB.out.size))⟩
            case measure => simp [intOf]; omega
    · go_wp2_with fail
      go_ret
      exact ⟨rfl, HB.out⟩
end Go.Proofs.Ytjphamgkigekkaa
