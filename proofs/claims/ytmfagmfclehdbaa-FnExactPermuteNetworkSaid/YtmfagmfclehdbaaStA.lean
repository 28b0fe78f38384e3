/-
  Slices of actors, and what the law's own functions do with them: copies, comparisons, sizes. No statement of the seat is proved here.
-/
import Derived.Test.YtmfagmfclehdbaaNetLw
import Derived.Test.YtmfagmfclehdbaaPrg
import Derived.Deep.RegionWith
import Derived.Deep.RegionHeld3
namespace Go.Proofs.Ytmfagmfclehdbaa
open Go.RowKit


/-- 'v' is a slice of actors that reads as 'xs'. -/
def SlA (w : World) (v : Value) (xs : List Act) : Prop :=
  ∃ (a : Option Addr) (cap : Nat), v = .slice a xs.length cap ∧ xs.length ≤ cap ∧ cap ≤ maxLen ∧ (a = none → cap = 0) ∧
    (xs = [] ∨ ∃ b off, a = some ⟨b, off, none⟩ ∧ b < w.heap.size ∧ ∀ i x, xs[i]? = some x → ∃ c, w.cell? ⟨b, off + i * 2, none⟩ = some (.int .i64 x.pc) ∧ w.cell? ⟨b, off + i * 2 + 1, none⟩ = some c ∧ Sl w c x.regs)
theorem SlA.below {w w' : World} {v : Value} {xs : List Act} (h : SlA w v xs) (hb : Below w.heap.size w w') : SlA w' v xs := by
  obtain ⟨a, cap, hv, h1, h2, h3, h4⟩ := h
  refine ⟨a, cap, hv, h1, h2, h3, ?_⟩
  rcases h4 with h4 | ⟨b, off, ha, hlt, hc⟩
  · exact .inl h4
  · refine .inr ⟨b, off, ha, Nat.lt_of_lt_of_le hlt hb.size, fun i x hi => ?_⟩
    obtain ⟨c, c0, c1, c2⟩ := hc i x hi
    exact ⟨c, (hb.cell hlt).trans c0, (hb.cell hlt).trans c1, c2.below hb⟩
theorem SlA.shape {w : World} {v : Value} {xs : List Act} (h : SlA w v xs) : ∃ a c, v = .slice a xs.length c := by
  obtain ⟨a, c, h, _⟩ := h; exact ⟨a, c, h⟩
theorem SlA.len {w : World} {v : Value} {xs : List Act} (h : SlA w v xs) : xs.length ≤ 9223372036854775807 := by
  obtain ⟨_, _, _, h1, h2, _⟩ := h; unfold maxLen at h2; omega
theorem SlA.atb {w : World} {a : Option Addr} {m cap : Nat} {ps : List Act} (h : SlA w (.slice a m cap) ps) {k : Nat} {x : Act} (hx : ps[k]? = some x) :
    ∃ b off c, a = some ⟨b, off, none⟩ ∧ b < w.heap.size ∧ w.cell? ⟨b, off + k * 2, none⟩ = some (.int .i64 x.pc) ∧ w.cell? ⟨b, off + k * 2 + 1, none⟩ = some c ∧ Sl w c x.regs := by
  obtain ⟨a', cap', hv, _, _, _, hr⟩ := h
  simp only [Value.slice.injEq] at hv
  obtain ⟨rfl, rfl, rfl⟩ := hv
  rcases hr with rfl | ⟨b, off, rfl, hb, hc⟩
  · simp at hx
  · obtain ⟨c, h0, h1, h2⟩ := hc k x hx
    exact ⟨b, off, c, rfl, hb, h0, h1, h2⟩
theorem RowA.step2 {g hi k : Nat} {w : World} {a b : Value} (h : RowA 2 g hi w k) (hc : ∃ y, w.cell? ⟨g, k * 2 + 1, none⟩ = some y) (hl : ∀ q, b.ownBlock = some q → hi ≤ q ∧ q < w.heap.size) (hh : hi ≤ w.heap.size) :
    RowA 2 g ((w.setCell ⟨g, k * 2, none⟩ a).setCell ⟨g, k * 2 + 1, none⟩ b).heap.size ((w.setCell ⟨g, k * 2, none⟩ a).setCell ⟨g, k * 2 + 1, none⟩ b) (k + 1) := by
  rw [show ((w.setCell ⟨g, k * 2, none⟩ a).setCell ⟨g, k * 2 + 1, none⟩ b).heap.size = w.heap.size by simp]
  refine h.step (fun i hi => ?_) (cell_on _ ?_) hl hh
  · rw [cell_off _ (by omega), cell_off _ (by omega)]
  · rw [show k * 2 + (2 - 1) = k * 2 + 1 by omega] at *
    rw [cell_off _ (by omega)]
    exact hc

theorem infoAc : (Try.prog.info? 74).map (fun i => (i.zero, i.size, i.bytes)) = some (some (.agg #[.int .i64 0, .slice none 0 0]), 2, 32) := by kernel_rfl
theorem infoAc_parts : ∃ i0, Try.prog.info? 74 = some i0 ∧ i0.zero = some (.agg #[.int .i64 0, .slice none 0 0]) ∧ i0.size = 2 ∧ i0.bytes = 32 := by
  have h := infoAc
  cases e : Try.prog.info? 74 with
  | none => rw [e] at h; cases h
  | some i =>
    rw [e] at h
    simp only [Option.map_some, Option.some.injEq, Prod.mk.injEq] at h
    exact ⟨i, rfl, h.1, h.2.1, h.2.2⟩
/-- The row g of the call's own holds the first k of these, and what they hold lies behind it. -/
def ActsO (g m : Nat) (w : World) (xs : List Act) (k : Nat) : Prop :=
  ∃ cs : List Value, w.ownsRow g 74 2 (.slice (some ⟨g, 0, none⟩) m m) m cs ∧ ∀ i x, i < k → xs[i]? = some x → ∃ c, cs[i * 2]? = some (.int .i64 x.pc) ∧ cs[i * 2 + 1]? = some c ∧ Own (g + 1) w c x.regs
theorem ActsO.below {g m k : Nat} {w w' : World} {xs : List Act} (h : ActsO g m w xs k) (hb : Below w.heap.size w w') : ActsO g m w' xs k := by
  obtain ⟨cs, h1, h2⟩ := h
  refine ⟨cs, row_below h1 hb, fun i x hi hx => ?_⟩
  obtain ⟨c, hc⟩ := h2 i x hi hx
  exact ⟨c, hc.1, hc.2.1, (hc.2.2).below hb⟩
theorem ActsO.cellZ {g m k : Nat} {w : World} {xs : List Act} (h : ActsO g m w xs k) (hk : k < m) : w.frozen? ⟨g, k * 2, none⟩ = false ∧ w.frozen? ⟨g, k * 2 + 1, none⟩ = false ∧ (∃ y, w.cell? ⟨g, k * 2, none⟩ = some y) ∧ (∃ y, w.cell? ⟨g, k * 2 + 1, none⟩ = some y) := by
  obtain ⟨cs, h1, _⟩ := h
  have hl := h1.1
  have c : ∀ j, j < m * 2 → ∃ y, w.cell? ⟨g, j, none⟩ = some y := fun j hj => by
    rw [h1.cellAt j hj, List.getElem?_eq_getElem (by rw [hl]; exact hj)]; exact ⟨_, rfl⟩
  exact ⟨h1.frozenAt _, h1.frozenAt _, c _ (by omega), c _ (by omega)⟩
theorem ActsO.step {g m k : Nat} {w : World} {xs : List Act} {x : Act} {c : Value} (h : ActsO g m w xs k) (hk : k < m) (hx : xs[k]? = some x) (hc : Own (g + 1) w c x.regs) : ActsO g m ((w.setCell ⟨g, k * 2, none⟩ (.int .i64 x.pc)).setCell ⟨g, k * 2 + 1, none⟩ c) xs (k + 1) := by
  obtain ⟨cs, h1, h2⟩ := h
  have hl := h1.1
  have a0 := h1.stored (k * 2) (.int .i64 x.pc)
  have a1 := a0.1.stored (k * 2 + 1) c
  refine ⟨_, a1.1, fun i y hi hy => ?_⟩
  by_cases e : i = k
  · subst e
    rw [hx] at hy
    obtain rfl := Option.some.inj hy
    refine ⟨c, by rw [set_keep _ _ _ _ (by omega)]; exact set_hit _ _ _ (by first | omega | (simp only [List.length_set]; omega)), by exact set_hit _ _ _ (by first | omega | (simp only [List.length_set]; omega)), ?_⟩
    exact ((hc.setB (by show g < g + 1; omega) _).setB (by show g < g + 1; omega) _)
  · obtain ⟨u, hu⟩ := h2 i y (by omega) hy
    refine ⟨u, by rw [set_keep _ _ _ _ (by omega)]; rw [set_keep _ _ _ _ (by omega)]; exact hu.1, by rw [set_keep _ _ _ _ (by omega)]; rw [set_keep _ _ _ _ (by omega)]; exact hu.2.1, ?_⟩
    exact (((hu.2.2).setB (by show g < g + 1; omega) _).setB (by show g < g + 1; omega) _)
theorem ActsO.setB {g m k : Nat} {w : World} {xs : List Act} (h : ActsO g m w xs k) {a : Addr} (ha : a.block < g) (u : Value) : ActsO g m (w.setCell a u) xs k := by
  obtain ⟨cs, h1, h2⟩ := h
  refine ⟨cs, ownsRow_setCell_below h1 ha u, fun i x hi hx => ?_⟩
  obtain ⟨c, hc⟩ := h2 i x hi hx
  exact ⟨c, hc.1, hc.2.1, (hc.2.2).setB (by omega) u⟩
theorem ActsO.done {g m : Nat} {w : World} {xs : List Act} (h : ActsO g m w xs m) (hm : xs.length = m) : SlA w (.slice (some ⟨g, 0, none⟩) m m) xs := by
  obtain ⟨cs, h1, h2⟩ := h
  have hcap : m ≤ maxLen := by
    rcases h1.2 with ⟨h', _⟩ | ⟨g', cap', cur, h', _, _, _, hcm, _⟩
    · simp at h'
    · simp only [Value.slice.injEq] at h'
      omega
  have hg : g < w.heap.size := (World.ownsRow.lt h1 g rfl).2
  refine ⟨some ⟨g, 0, none⟩, m, by rw [hm], by omega, hcap, (fun e => by cases e), .inr ⟨g, 0, rfl, hg, fun i x hi => ?_⟩⟩
  have hlt : i < m := by rw [← hm]; exact (List.getElem?_eq_some_iff.1 hi).1
  obtain ⟨c, hc⟩ := h2 i x hlt hi
  simp only [Nat.zero_add]
  exact ⟨c, (h1.cellAt _ (by omega)).trans (hc.1), (h1.cellAt _ (by omega)).trans (hc.2.1), (hc.2.2).sl⟩

theorem rowltA {g m k : Nat} {w : World} {xs : List Act} (h : ActsO g m w xs k) : g < w.heap.size := by
  obtain ⟨cs, h1, _⟩ := h
  exact (World.ownsRow.lt h1 g rfl).2
set_option maxRecDepth 100000 in
set_option maxHeartbeats 1600000 in
theorem eqActorS_ok (v u : Value) (xs : List Act) (w : World) (h : SlA w v xs) (k : SlA w u xs) :
    Calls Try.prog 59 #[v, u] w fun e w' => e = .returned (.bool true) ∧ Below w.heap.size w w' := by
  obtain ⟨a, cap, rfl, hl, hm, hn, hc⟩ := h
  obtain ⟨a2, cap2, rfl, hl2, hm2, hn2, hc2⟩ := k
  have hm' : xs.length ≤ 9223372036854775807 := by unfold maxLen at hm; omega
  clear hm hn hm2 hn2 hl hl2
  obtain ⟨m, hmm⟩ : ∃ m, m = xs.length := ⟨_, rfl⟩
  rw [← hmm] at hm' ⊢
  have HM := Lib.hid hmm
  clear hmm
  go_enter Try.func59, Try.ntmps59
  go_wp2_with fail
  go_loopw [5] (fun i wr => ∃ k : Nat, k ≤ m ∧ i = .int .i64 k ∧ Hid (Below w.heap.size w wr)) (fun i _ => m - (intOf i).toNat)
  case atStart => exact ⟨0, Nat.zero_le _, rfl, Lib.hid (Below.refl _ _)⟩
  case round =>
    obtain ⟨k, hk, rfl, HB⟩ := hrel
    by_cases hlt : k < m
    · rcases hc with rfl | ⟨b, off, rfl, hbl, hcell⟩
      · exact absurd hlt (by have := HM.out; simp at this; omega)
      · rcases hc2 with rfl | ⟨b2, off2, rfl, hbl2, hcell2⟩
        · exact absurd hlt (by have := HM.out; simp at this; omega)
        · obtain ⟨x, hx⟩ : ∃ x, xs[k]? = some x := ⟨_, List.getElem?_eq_getElem (by rw [← HM.out]; exact hlt)⟩
          obtain ⟨u1, e0, e1, ee⟩ := hcell k x hx
          obtain ⟨u2, f0, f1, ff⟩ := hcell2 k x hx
          obtain ⟨ua, uc, e6⟩ := (ee).shape
          obtain ⟨ub, ud, f6⟩ := (ff).shape
          have HS := Lib.hid ((ee).below HB.out)
          have HT := Lib.hid ((ff).below HB.out)
          have c0 := (HB.out.cell (p := ⟨b, off + k * 2, none⟩) hbl).trans e0
          have c1 := (HB.out.cell (p := ⟨b, off + k * 2 + 1, none⟩) hbl).trans e1
          have d0 := (HB.out.cell (p := ⟨b2, off2 + k * 2, none⟩) hbl2).trans f0
          have d1 := (HB.out.cell (p := ⟨b2, off2 + k * 2 + 1, none⟩) hbl2).trans f1
          have hbk : b < wr.heap.size := Nat.lt_of_lt_of_le hbl HB.out.size
          have hbk2 : b2 < wr.heap.size := Nat.lt_of_lt_of_le hbl2 HB.out.size
          clear hx hcell hcell2 e0 e1 f0 f1 ee ff
          obtain ⟨pi, pc⟩ := x
          simp only [] at c0 c1 d0 d1 e6 f6 HS HT
          obtain ⟨ul, hul⟩ : ∃ z, z = pc.length := ⟨_, rfl⟩
          rw [← hul] at e6 f6
          clear hul
          subst e6
          subst f6
          have EC := Lib.hid (fun W (hw : Below wr.heap.size wr W) => eqAct_ok (.agg #[.int .i64 pi, .slice ua ul uc]) (.agg #[.int .i64 pi, .slice ub ul ud]) ⟨pi, pc⟩ W ⟨_, rfl, HS.out.below hw⟩ ⟨_, rfl, HT.out.below hw⟩)
          go_wp2_with fail
          go_region_held3 (fun w' => w'.cell? ⟨b, off + k * 2, none⟩ = some (.int .i64 pi) ∧ w'.cell? ⟨b, off + k * 2 + 1, none⟩ = some (.slice ua ul uc) ∧ w'.cell? ⟨b2, off2 + k * 2, none⟩ = some (.int .i64 pi) ∧ w'.cell? ⟨b2, off2 + k * 2 + 1, none⟩ = some (.slice ub ul ud)) (go_keep)
            (first | (go_at_call 120; refine (EC.out _ (by first | with_reducible exact Below.refl _ _ | with_reducible exact (Below.refl _ _).drew)).mono ?_; rintro e w2 ⟨rfl, hb1⟩; have HC1 := Lib.hid (show Below wr.heap.size wr w2 by first | with_reducible exact hb1 | with_reducible exact cr_d hb1); have c0' := (HC1.out.cell (p := ⟨b, off + k * 2, none⟩) hbk).trans c0; have c1' := (HC1.out.cell (p := ⟨b, off + k * 2 + 1, none⟩) hbk).trans c1; have d0' := (HC1.out.cell (p := ⟨b2, off2 + k * 2, none⟩) hbk2).trans d0; have d1' := (HC1.out.cell (p := ⟨b2, off2 + k * 2 + 1, none⟩) hbk2).trans d1; clear hb1))
          all_goals
            go_wp2_with fail
            go_roundw
            case rel => exact ⟨k + 1, by omega, by go_num, Lib.hid (HB.out.trans (HC1.out.mono HB.out.size))⟩
            case measure => simp [intOf]; omega
    · go_wp2_with fail
      go_ret
      exact ⟨rfl, HB.out⟩

def sumA (xs : List Act) : Nat := xs.length + (xs.map fun p => p.regs.length).sum
end Go.Proofs.Ytmfagmfclehdbaa
