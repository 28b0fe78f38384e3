/-
  Copies of a network by the law's own functions. No statement of the seat is proved here.
-/
import Derived.Test.YtjphamgkigekkaaSNet3
import Derived.Test.YtjphamgkigekkaaPrg
import Derived.Deep.RegionWith
namespace Go.Proofs.Ytjphamgkigekkaa
open Go.RowKit


def LnkV (w : World) (v : Value) (l : Lnk) : Prop := ∃ c, v = .agg #[.int .i64 l.frm, .int .i64 l.out, .int .i64 l.to, .int .i64 l.inn, c] ∧ Sl w c l.tok
def LnkO (lo : Nat) (w : World) (v : Value) (l : Lnk) : Prop := ∃ c, v = .agg #[.int .i64 l.frm, .int .i64 l.out, .int .i64 l.to, .int .i64 l.inn, c] ∧ Own lo w c l.tok
theorem set_keep {α : Type} (cs : List α) (a i : Nat) (v : α) (h : i ≠ a) : (cs.set a v)[i]? = cs[i]? := by rw [List.getElem?_set_ne (fun e => h e.symm)]
theorem set_hit {α : Type} (cs : List α) (a : Nat) (v : α) (h : a < cs.length) : (cs.set a v)[a]? = some v := by rw [List.getElem?_set_self h]
/-- What the first k rows of the block g hold lies below the block hi, each in a block of its own. -/
structure RowA (n g hi : Nat) (w : World) (k : Nat) : Prop where
  lt : ∀ i c, i < k → w.cell? ⟨g, i * n + (n - 1), none⟩ = some c → ∀ q, c.ownBlock = some q → q < hi
  ap : ∀ i j c d, i < j → j < k → w.cell? ⟨g, i * n + (n - 1), none⟩ = some c → w.cell? ⟨g, j * n + (n - 1), none⟩ = some d → Apart c d
theorem RowA.start (n g hi : Nat) (w : World) : RowA n g hi w 0 := ⟨fun i c h => absurd h (by omega), fun i j c d _ h => absurd h (by omega)⟩
theorem RowA.same {n g hi k : Nat} {w w' : World} (h : RowA n g hi w k) (hs : ∀ i, i < k → w'.cell? ⟨g, i * n + (n - 1), none⟩ = w.cell? ⟨g, i * n + (n - 1), none⟩) : RowA n g hi w' k :=
  ⟨fun i c hi hc => h.lt i c hi (by rw [← hs i hi]; exact hc), fun i j c d hij hj hc hd => h.ap i j c d hij hj (by rw [← hs i (by omega)]; exact hc) (by rw [← hs j hj]; exact hd)⟩
theorem RowA.below {n g hi k : Nat} {w w' : World} (h : RowA n g hi w k) (hb : Below w.heap.size w w') (hg : g < w.heap.size) : RowA n g hi w' k := h.same fun _ _ => hb.cell hg
theorem RowA.more {n g hi hi' k : Nat} {w : World} (h : RowA n g hi w k) (hh : hi ≤ hi') : RowA n g hi' w k := ⟨fun i c hi hc q e => Nat.lt_of_lt_of_le (h.lt i c hi hc q e) hh, h.ap⟩
theorem RowA.step {n g hi hi' k : Nat} {w w' : World} {c : Value} (h : RowA n g hi w k) (hs : ∀ i, i < k → w'.cell? ⟨g, i * n + (n - 1), none⟩ = w.cell? ⟨g, i * n + (n - 1), none⟩) (hc : w'.cell? ⟨g, k * n + (n - 1), none⟩ = some c) (hl : ∀ q, c.ownBlock = some q → hi ≤ q ∧ q < hi') (hh : hi ≤ hi') : RowA n g hi' w' (k + 1) := by
  refine ⟨fun i d hi' hd q e => ?_, fun i j d d' hij hj hd hd' => ?_⟩
  · by_cases z : i = k
    · subst z
      rw [hc] at hd
      obtain rfl := Option.some.inj hd
      exact (hl q e).2
    · exact Nat.lt_of_lt_of_le (h.lt i d (by omega) (by rw [← hs i (by omega)]; exact hd) q e) hh
  · by_cases z : j = k
    · subst z
      rw [hc] at hd'
      obtain rfl := Option.some.inj hd'
      have h1 := h.lt i d hij (by rw [← hs i hij]; exact hd)
      cases q : d.ownBlock with
      | none => exact .inl q
      | some b =>
        right
        rw [q]
        intro e
        have := h1 b q
        have := (hl b e.symm).1
        omega
    · exact h.ap i j d d' hij (by omega) (by rw [← hs i (by omega)]; exact hd) (by rw [← hs j (by omega)]; exact hd')
theorem cell_off {w : World} {g a b : Nat} (v : Value) (h : a ≠ b) : (w.setCell ⟨g, a, none⟩ v).cell? ⟨g, b, none⟩ = w.cell? ⟨g, b, none⟩ := World.cell?_setCell_other _ _ _ _ (fun e => h (congrArg Addr.off e))
theorem cell_on {w : World} {g a : Nat} (v : Value) (h : ∃ y, w.cell? ⟨g, a, none⟩ = some y) : (w.setCell ⟨g, a, none⟩ v).cell? ⟨g, a, none⟩ = some v := by obtain ⟨y, h⟩ := h; exact World.cell?_setCell_same _ _ _ h
theorem RowA.step3 {g hi k : Nat} {w : World} {a b c : Value} (h : RowA 3 g hi w k) (hc : ∃ y, w.cell? ⟨g, k * 3 + 2, none⟩ = some y) (hl : ∀ q, c.ownBlock = some q → hi ≤ q ∧ q < w.heap.size) (hh : hi ≤ w.heap.size) :
    RowA 3 g (((w.setCell ⟨g, k * 3, none⟩ a).setCell ⟨g, k * 3 + 1, none⟩ b).setCell ⟨g, k * 3 + 2, none⟩ c).heap.size (((w.setCell ⟨g, k * 3, none⟩ a).setCell ⟨g, k * 3 + 1, none⟩ b).setCell ⟨g, k * 3 + 2, none⟩ c) (k + 1) := by
  rw [show (((w.setCell ⟨g, k * 3, none⟩ a).setCell ⟨g, k * 3 + 1, none⟩ b).setCell ⟨g, k * 3 + 2, none⟩ c).heap.size = w.heap.size by simp]
  refine h.step (fun i hi => ?_) (cell_on _ ?_) hl hh
  · rw [cell_off _ (by omega), cell_off _ (by omega), cell_off _ (by omega)]
  · rw [show k * 3 + (3 - 1) = k * 3 + 2 by omega] at *
    rw [cell_off _ (by omega), cell_off _ (by omega)]
    exact hc
theorem RowA.step5 {g hi k : Nat} {w : World} {a b c d x : Value} (h : RowA 5 g hi w k) (hc : ∃ y, w.cell? ⟨g, k * 5 + 4, none⟩ = some y) (hl : ∀ q, x.ownBlock = some q → hi ≤ q ∧ q < w.heap.size) (hh : hi ≤ w.heap.size) :
    RowA 5 g (((((w.setCell ⟨g, k * 5, none⟩ a).setCell ⟨g, k * 5 + 1, none⟩ b).setCell ⟨g, k * 5 + 2, none⟩ c).setCell ⟨g, k * 5 + 3, none⟩ d).setCell ⟨g, k * 5 + 4, none⟩ x).heap.size (((((w.setCell ⟨g, k * 5, none⟩ a).setCell ⟨g, k * 5 + 1, none⟩ b).setCell ⟨g, k * 5 + 2, none⟩ c).setCell ⟨g, k * 5 + 3, none⟩ d).setCell ⟨g, k * 5 + 4, none⟩ x) (k + 1) := by
  rw [show (((((w.setCell ⟨g, k * 5, none⟩ a).setCell ⟨g, k * 5 + 1, none⟩ b).setCell ⟨g, k * 5 + 2, none⟩ c).setCell ⟨g, k * 5 + 3, none⟩ d).setCell ⟨g, k * 5 + 4, none⟩ x).heap.size = w.heap.size by simp]
  refine h.step (fun i hi => ?_) (cell_on _ ?_) hl hh
  · rw [cell_off _ (by omega), cell_off _ (by omega), cell_off _ (by omega), cell_off _ (by omega), cell_off _ (by omega)]
  · rw [show k * 5 + (5 - 1) = k * 5 + 4 by omega] at *
    rw [cell_off _ (by omega), cell_off _ (by omega), cell_off _ (by omega), cell_off _ (by omega)]
    exact hc

set_option maxRecDepth 100000 in
set_option maxHeartbeats 1600000 in
theorem toLnk_any (v : Value) (l : Lnk) (w : World) (h : LnkV w v l) (hs : l.tok.length ≤ 1048576) :
    Calls Try.prog 114 #[v] w fun e w' => ∃ v', e = .returned v' ∧ LnkO w.heap.size w' v' l ∧ Below w.heap.size w w' := by
  obtain ⟨c, rfl, hc⟩ := h
  obtain ⟨f, o, t, i, tok⟩ := l
  simp only [] at hc hs ⊢
  obtain ⟨n, hn⟩ : ∃ n, n = tok.length := ⟨_, rfl⟩
  have HC := Lib.hid hc
  obtain ⟨a, cap, rfl, hrest⟩ := hc
  clear hrest
  rw [← hn] at HC hs ⊢
  have HN := Lib.hid hn
  clear hn
  have hb := Lib.hid ((((Below.refl w.heap.size w).al (.cells #[.int .i64 f, .int .i64 o, .int .i64 t, .int .i64 i, .slice a n cap] 125)).al (.cells #[.int .i64 0, .int .i64 0, .int .i64 0, .int .i64 0, .slice none 0 0] 82)).al (.cells #[.int .i64 f, .int .i64 o, .int .i64 t, .int .i64 i, .slice none 0 0] 82))
  have hH := Lib.hid (hp3 w (.cells #[.int .i64 f, .int .i64 o, .int .i64 t, .int .i64 i, .slice a n cap] 125) (.cells #[.int .i64 0, .int .i64 0, .int .i64 0, .int .i64 0, .slice none 0 0] 82) (.cells #[.int .i64 f, .int .i64 o, .int .i64 t, .int .i64 i, .slice none 0 0] 82))
  have hH1 := Lib.hid (hp32 w (.cells #[.int .i64 f, .int .i64 o, .int .i64 t, .int .i64 i, .slice a n cap] 125) (.cells #[.int .i64 0, .int .i64 0, .int .i64 0, .int .i64 0, .slice none 0 0] 82) (.cells #[.int .i64 f, .int .i64 o, .int .i64 t, .int .i64 i, .slice none 0 0] 82))
  go_enter Try.func114, Try.ntmps114
  go_wp2_with (go_at_call 63; refine (toInt_any _ tok _ (HC.out.below (hb.out.mono (by simp))) (by rw [← HN.out]; exact hs)).mono ?_; rintro e w2 ⟨v', rfl, ho, hb1⟩; have B := blk_in hH.out hb1; have B1 := blk_in hH1.out hb1; obtain ⟨c0, c1, c2, c3, c4⟩ := cells5 B; have z := fr_of B 4; obtain ⟨b0, b1, b2, b3, b4⟩ := cells5 B1; have y0 := fr_of B1 0; have y1 := fr_of B1 1; have y2 := fr_of B1 2; have y3 := fr_of B1 3; have y4 := fr_of B1 4; obtain ⟨a', cc', rfl⟩ := ho.shape; have HO := Lib.hid (Own.mono (lo' := w.heap.size + 3) ho (by simp)); have HB1 := Lib.hid hb1; clear B B1 ho hb1)
  refine bodyPost_ret (v := .agg #[.int .i64 f, .int .i64 o, .int .i64 t, .int .i64 i, .slice a' tok.length cc']) (by simp [results, Try.results114, go_sem, b0, b1, b2, b3, b4]) rfl ⟨_, rfl, ⟨_, rfl, ?_⟩, ?_⟩
  · exact ((((((HO.out.setB (by simp) _).setB (by simp) _).setB (by simp) _).setB (by simp) _).setB (by simp) _).setB (by simp) _).mono (by omega)
  · exact ((((((hb.out.trans (HB1.out.mono (by simp; omega))).setCell (by simp; omega) _).setCell (by simp) _).setCell (by simp) _).setCell (by simp) _).setCell (by simp) _).setCell (by simp) _

theorem infoP : (Try.prog.info? 86).map (fun i => (i.zero, i.size, i.bytes)) = some (some (.agg #[.int .i64 0, .int .i64 0, .slice none 0 0]), 3, 40) := by kernel_rfl
theorem infoP_parts : ∃ i0, Try.prog.info? 86 = some i0 ∧ i0.zero = some (.agg #[.int .i64 0, .int .i64 0, .slice none 0 0]) ∧ i0.size = 3 ∧ i0.bytes = 40 := by
  have h := infoP
  cases e : Try.prog.info? 86 with
  | none => rw [e] at h; cases h
  | some i =>
    rw [e] at h
    simp only [Option.map_some, Option.some.injEq, Prod.mk.injEq] at h
    exact ⟨i, rfl, h.1, h.2.1, h.2.2⟩
/-- The row g of the call's own holds the first k of these, and what they hold lies behind it. -/
def PrgsO (g m : Nat) (w : World) (xs : List Prg) (k : Nat) : Prop :=
  ∃ cs : List Value, w.ownsRow g 86 3 (.slice (some ⟨g, 0, none⟩) m m) m cs ∧ ∀ i x, i < k → xs[i]? = some x → ∃ c, cs[i * 3]? = some (.int .i64 x.ins) ∧ cs[i * 3 + 1]? = some (.int .i64 x.outs) ∧ cs[i * 3 + 2]? = some c ∧ OwnI (g + 1) w c x.code
theorem PrgsO.below {g m k : Nat} {w w' : World} {xs : List Prg} (h : PrgsO g m w xs k) (hb : Below w.heap.size w w') : PrgsO g m w' xs k := by
  obtain ⟨cs, h1, h2⟩ := h
  refine ⟨cs, row_below h1 hb, fun i x hi hx => ?_⟩
  obtain ⟨c, hc⟩ := h2 i x hi hx
  exact ⟨c, hc.1, hc.2.1, hc.2.2.1, (hc.2.2.2).below hb⟩
theorem PrgsO.cellZ {g m k : Nat} {w : World} {xs : List Prg} (h : PrgsO g m w xs k) (hk : k < m) : w.frozen? ⟨g, k * 3, none⟩ = false ∧ w.frozen? ⟨g, k * 3 + 1, none⟩ = false ∧ w.frozen? ⟨g, k * 3 + 2, none⟩ = false ∧ (∃ y, w.cell? ⟨g, k * 3, none⟩ = some y) ∧ (∃ y, w.cell? ⟨g, k * 3 + 1, none⟩ = some y) ∧ (∃ y, w.cell? ⟨g, k * 3 + 2, none⟩ = some y) := by
  obtain ⟨cs, h1, _⟩ := h
  have hl := h1.1
  have c : ∀ j, j < m * 3 → ∃ y, w.cell? ⟨g, j, none⟩ = some y := fun j hj => by
    rw [h1.cellAt j hj, List.getElem?_eq_getElem (by rw [hl]; exact hj)]; exact ⟨_, rfl⟩
  exact ⟨h1.frozenAt _, h1.frozenAt _, h1.frozenAt _, c _ (by omega), c _ (by omega), c _ (by omega)⟩
theorem PrgsO.step {g m k : Nat} {w : World} {xs : List Prg} {x : Prg} {c : Value} (h : PrgsO g m w xs k) (hk : k < m) (hx : xs[k]? = some x) (hc : OwnI (g + 1) w c x.code) : PrgsO g m (((w.setCell ⟨g, k * 3, none⟩ (.int .i64 x.ins)).setCell ⟨g, k * 3 + 1, none⟩ (.int .i64 x.outs)).setCell ⟨g, k * 3 + 2, none⟩ c) xs (k + 1) := by
  obtain ⟨cs, h1, h2⟩ := h
  have hl := h1.1
  have a0 := h1.stored (k * 3) (.int .i64 x.ins)
  have a1 := a0.1.stored (k * 3 + 1) (.int .i64 x.outs)
  have a2 := a1.1.stored (k * 3 + 2) c
  refine ⟨_, a2.1, fun i y hi hy => ?_⟩
  by_cases e : i = k
  · subst e
    rw [hx] at hy
    obtain rfl := Option.some.inj hy
    refine ⟨c, by rw [set_keep _ _ _ _ (by omega)]; rw [set_keep _ _ _ _ (by omega)]; exact set_hit _ _ _ (by first | omega | (simp only [List.length_set]; omega)), by rw [set_keep _ _ _ _ (by omega)]; exact set_hit _ _ _ (by first | omega | (simp only [List.length_set]; omega)), by exact set_hit _ _ _ (by first | omega | (simp only [List.length_set]; omega)), ?_⟩
    exact (((hc.setB (by show g < g + 1; omega) _).setB (by show g < g + 1; omega) _).setB (by show g < g + 1; omega) _)
  · obtain ⟨u, hu⟩ := h2 i y (by omega) hy
    refine ⟨u, by rw [set_keep _ _ _ _ (by omega)]; rw [set_keep _ _ _ _ (by omega)]; rw [set_keep _ _ _ _ (by omega)]; exact hu.1, by rw [set_keep _ _ _ _ (by omega)]; rw [set_keep _ _ _ _ (by omega)]; rw [set_keep _ _ _ _ (by omega)]; exact hu.2.1, by rw [set_keep _ _ _ _ (by omega)]; rw [set_keep _ _ _ _ (by omega)]; rw [set_keep _ _ _ _ (by omega)]; exact hu.2.2.1, ?_⟩
    exact ((((hu.2.2.2).setB (by show g < g + 1; omega) _).setB (by show g < g + 1; omega) _).setB (by show g < g + 1; omega) _)
theorem PrgsO.setB {g m k : Nat} {w : World} {xs : List Prg} (h : PrgsO g m w xs k) {a : Addr} (ha : a.block < g) (u : Value) : PrgsO g m (w.setCell a u) xs k := by
  obtain ⟨cs, h1, h2⟩ := h
  refine ⟨cs, ownsRow_setCell_below h1 ha u, fun i x hi hx => ?_⟩
  obtain ⟨c, hc⟩ := h2 i x hi hx
  exact ⟨c, hc.1, hc.2.1, hc.2.2.1, (hc.2.2.2).setB (by omega) u⟩
theorem PrgsO.done {g m : Nat} {w : World} {xs : List Prg} (h : PrgsO g m w xs m) (hm : xs.length = m) : SlP w (.slice (some ⟨g, 0, none⟩) m m) xs := by
  obtain ⟨cs, h1, h2⟩ := h
  have hcap : m ≤ maxLen := by
    rcases h1.2 with ⟨h', _⟩ | ⟨g', cap', cur, h', _, _, _, hcm, _⟩
    · simp at h'
    · simp only [Value.slice.injEq] at h'
      omega
  have hg : g < w.heap.size := (World.ownsRow.lt h1 g rfl).2
  refine ⟨some ⟨g, 0, none⟩, m, by rw [hm], by omega, hcap, (fun e => by cases e), .inr ⟨g, 0, rfl, hg, fun i x hi => ?_⟩⟩
  have hlt : i < m := by rw [← hm]; exact (List.getElem?_eq_some_iff.1 hi).1
  obtain ⟨c, hc⟩ := h2 i x hlt hi
  simp only [Nat.zero_add]
  exact ⟨c, (h1.cellAt _ (by omega)).trans (hc.1), (h1.cellAt _ (by omega)).trans (hc.2.1), (h1.cellAt _ (by omega)).trans (hc.2.2.1), (hc.2.2.2).sl⟩

theorem rowltP {g m k : Nat} {w : World} {xs : List Prg} (h : PrgsO g m w xs k) : g < w.heap.size := by
  obtain ⟨cs, h1, _⟩ := h
  exact (World.ownsRow.lt h1 g rfl).2
set_option maxRecDepth 100000 in
set_option maxHeartbeats 1600000 in
theorem toProgramS_any (v : Value) (xs : List Prg) (w : World) (h : SlP w v xs) (hs : xs.length ≤ 1048576) (hs2 : ∀ x ∈ xs, x.code.length ≤ 1048576) :
    Calls Try.prog 61 #[v] w fun e w' => e = .returned (.slice (some ⟨w.heap.size, 0, none⟩) xs.length xs.length) ∧ PrgsO w.heap.size xs.length w' xs xs.length ∧ RowA 3 w.heap.size w'.heap.size w' xs.length ∧ Below w.heap.size w w' := by
  have HS2 := Lib.hid hs2
  obtain ⟨a, cap, rfl, hl, hm, hn, hc⟩ := h
  clear hm hn hl hs2
  obtain ⟨m, hmm⟩ : ∃ m, m = xs.length := ⟨_, rfl⟩
  rw [← hmm] at hs ⊢
  have HM := Lib.hid hmm
  clear hmm
  obtain ⟨i0, hi, hz0, hz1, hz2⟩ := infoP_parts
  go_enter Try.func61, Try.ntmps61
  go_wp2_with (at_make; refine wpList_make_full _ rfl _ _ 31 rfl w.heap.size 86 i0 (.agg #[.int .i64 0, .int .i64 0, .slice none 0 0]) 3 Try.underlying31 hi hz0 hz1 _ _ _ _ m rfl rfl rfl rfl ?b2 ?b3 ?b4 ?_)
  case b2 => rw [hz2]; omega
  case b3 => unfold maxLen; omega
  case b4 => exact Nat.le_refl _
  intro w1 hown hgrow
  have hb := Lib.hid ((Below.refl w.heap.size w).grown hgrow (Nat.le_refl _) (by simp))
  have HO := Lib.hid (show PrgsO w.heap.size m w1 xs 0 from ⟨_, hown, fun i x hi => absurd hi (by omega)⟩)
  clear hgrow hi hz0 hz1 hz2 hown
  go_wp2_with fail
  go_loopw [4] (fun i wr => ∃ k : Nat, k ≤ m ∧ i = .int .i64 k ∧ Hid (PrgsO w.heap.size m wr xs k) ∧ Hid (RowA 3 w.heap.size wr.heap.size wr k) ∧ Hid (Below w.heap.size w wr)) (fun i _ => m - (intOf i).toNat)
  case atStart => exact ⟨0, Nat.zero_le _, rfl, HO, Lib.hid (RowA.start _ _ _ _), hb⟩
  case round =>
    obtain ⟨k, hk, rfl, HR, HA, HB⟩ := hrel
    by_cases hlt : k < m
    · rcases hc with rfl | ⟨b, off, rfl, hbl, hcell⟩
      · exact absurd hlt (by have := HM.out; simp at this; omega)
      · obtain ⟨x, hx⟩ : ∃ x, xs[k]? = some x := ⟨_, List.getElem?_eq_getElem (by rw [← HM.out]; exact hlt)⟩
        obtain ⟨u, e0, e1, e2, ee⟩ := hcell k x hx
        obtain ⟨ua, uc, e6⟩ := (ee).shape
        have HS := Lib.hid ((ee).below HB.out)
        have c0 := (HB.out.cell (p := ⟨b, off + k * 3, none⟩) hbl).trans e0
        have c1 := (HB.out.cell (p := ⟨b, off + k * 3 + 1, none⟩) hbl).trans e1
        have c2 := (HB.out.cell (p := ⟨b, off + k * 3 + 2, none⟩) hbl).trans e2
        have hbl2 : b < wr.heap.size := Nat.lt_of_lt_of_le hbl HB.out.size
        have HX := Lib.hid hx
        have hsx := HS2.out x (List.mem_of_getElem? hx)
        clear hx hcell e0 e1 e2 ee
        obtain ⟨pi, po, pc⟩ := x
        simp only [] at c0 c1 c2 e6 HS hsx
        obtain ⟨ul, hul⟩ : ∃ z, z = pc.length := ⟨_, rfl⟩
        have HSX := Lib.hid hsx
        rw [← hul] at e6
        clear hul hsx
        subst e6
        go_wp2_with (go_at_call 113; refine (toPrg_any _ ⟨pi, po, pc⟩ _ ⟨_, rfl, HS.out⟩ HSX.out).mono ?_; rintro e w2 ⟨v', rfl, ⟨c', rfl, ho⟩, hb1⟩; obtain ⟨ga, gc, rfl⟩ := ho.shape; have HU1 := Lib.hid ho.lt; have HSZ := Lib.hid hb1.size; have HA1 := Lib.hid (HA.out.below hb1 (rowltP HR.out)); have HO1 := Lib.hid (OwnI.mono (lo' := w.heap.size + 1) ho (by have h1 := HB.out.size; have h2 := rowltP HR.out; omega)); have HR1 := Lib.hid (HR.out.below hb1); have HB1 := Lib.hid (HB.out.trans (hb1.mono HB.out.size)); have Z := HR1.out.cellZ hlt; obtain ⟨z0, z1, z2, ⟨y0, k0⟩, ⟨y1, k1⟩, ⟨y2, k2⟩⟩ := Z; clear ho hb1)
        go_roundw
        case rel =>
          have q1 := HR1.out.step (x := ⟨pi, po, pc⟩) hlt HX.out HO1.out
          have q2 := (((HB1.out.setCell (p := ⟨w.heap.size, k * 3, none⟩) (Nat.le_refl _) (.int .i64 pi)).setCell (p := ⟨w.heap.size, k * 3 + 1, none⟩) (Nat.le_refl _) (.int .i64 po)).setCell (p := ⟨w.heap.size, k * 3 + 2, none⟩) (Nat.le_refl _) (.slice ga pc.length gc))
          have q3 := HA1.out.step3 (a := (.int .i64 pi)) (b := (.int .i64 po)) (c := (.slice ga pc.length gc)) ⟨_, k2⟩ HU1.out HSZ.out
          exact ⟨k + 1, by omega, by go_num, Lib.hid q1, Lib.hid q3, Lib.hid q2⟩
        case measure => simp [intOf]; omega
    · go_wp2_with fail
      go_ret
      have := HR.out
      have hA := HA.out
      rw [show k = m by omega] at this hA
      exact ⟨rfl, this, hA, HB.out⟩

theorem infoL : (Try.prog.info? 82).map (fun i => (i.zero, i.size, i.bytes)) = some (some (.agg #[.int .i64 0, .int .i64 0, .int .i64 0, .int .i64 0, .slice none 0 0]), 5, 56) := by kernel_rfl
theorem infoL_parts : ∃ i0, Try.prog.info? 82 = some i0 ∧ i0.zero = some (.agg #[.int .i64 0, .int .i64 0, .int .i64 0, .int .i64 0, .slice none 0 0]) ∧ i0.size = 5 ∧ i0.bytes = 56 := by
  have h := infoL
  cases e : Try.prog.info? 82 with
  | none => rw [e] at h; cases h
  | some i =>
    rw [e] at h
    simp only [Option.map_some, Option.some.injEq, Prod.mk.injEq] at h
    exact ⟨i, rfl, h.1, h.2.1, h.2.2⟩
/-- The row g of the call's own holds the first k of these, and what they hold lies behind it. -/
def LnksO (g m : Nat) (w : World) (xs : List Lnk) (k : Nat) : Prop :=
  ∃ cs : List Value, w.ownsRow g 82 5 (.slice (some ⟨g, 0, none⟩) m m) m cs ∧ ∀ i x, i < k → xs[i]? = some x → ∃ c, cs[i * 5]? = some (.int .i64 x.frm) ∧ cs[i * 5 + 1]? = some (.int .i64 x.out) ∧ cs[i * 5 + 2]? = some (.int .i64 x.to) ∧ cs[i * 5 + 3]? = some (.int .i64 x.inn) ∧ cs[i * 5 + 4]? = some c ∧ Own (g + 1) w c x.tok
theorem LnksO.below {g m k : Nat} {w w' : World} {xs : List Lnk} (h : LnksO g m w xs k) (hb : Below w.heap.size w w') : LnksO g m w' xs k := by
  obtain ⟨cs, h1, h2⟩ := h
  refine ⟨cs, row_below h1 hb, fun i x hi hx => ?_⟩
  obtain ⟨c, hc⟩ := h2 i x hi hx
  exact ⟨c, hc.1, hc.2.1, hc.2.2.1, hc.2.2.2.1, hc.2.2.2.2.1, (hc.2.2.2.2.2).below hb⟩
theorem LnksO.cellZ {g m k : Nat} {w : World} {xs : List Lnk} (h : LnksO g m w xs k) (hk : k < m) : w.frozen? ⟨g, k * 5, none⟩ = false ∧ w.frozen? ⟨g, k * 5 + 1, none⟩ = false ∧ w.frozen? ⟨g, k * 5 + 2, none⟩ = false ∧ w.frozen? ⟨g, k * 5 + 3, none⟩ = false ∧ w.frozen? ⟨g, k * 5 + 4, none⟩ = false ∧ (∃ y, w.cell? ⟨g, k * 5, none⟩ = some y) ∧ (∃ y, w.cell? ⟨g, k * 5 + 1, none⟩ = some y) ∧ (∃ y, w.cell? ⟨g, k * 5 + 2, none⟩ = some y) ∧ (∃ y, w.cell? ⟨g, k * 5 + 3, none⟩ = some y) ∧ (∃ y, w.cell? ⟨g, k * 5 + 4, none⟩ = some y) := by
  obtain ⟨cs, h1, _⟩ := h
  have hl := h1.1
  have c : ∀ j, j < m * 5 → ∃ y, w.cell? ⟨g, j, none⟩ = some y := fun j hj => by
    rw [h1.cellAt j hj, List.getElem?_eq_getElem (by rw [hl]; exact hj)]; exact ⟨_, rfl⟩
  exact ⟨h1.frozenAt _, h1.frozenAt _, h1.frozenAt _, h1.frozenAt _, h1.frozenAt _, c _ (by omega), c _ (by omega), c _ (by omega), c _ (by omega), c _ (by omega)⟩
theorem LnksO.step {g m k : Nat} {w : World} {xs : List Lnk} {x : Lnk} {c : Value} (h : LnksO g m w xs k) (hk : k < m) (hx : xs[k]? = some x) (hc : Own (g + 1) w c x.tok) : LnksO g m (((((w.setCell ⟨g, k * 5, none⟩ (.int .i64 x.frm)).setCell ⟨g, k * 5 + 1, none⟩ (.int .i64 x.out)).setCell ⟨g, k * 5 + 2, none⟩ (.int .i64 x.to)).setCell ⟨g, k * 5 + 3, none⟩ (.int .i64 x.inn)).setCell ⟨g, k * 5 + 4, none⟩ c) xs (k + 1) := by
  obtain ⟨cs, h1, h2⟩ := h
  have hl := h1.1
  have a0 := h1.stored (k * 5) (.int .i64 x.frm)
  have a1 := a0.1.stored (k * 5 + 1) (.int .i64 x.out)
  have a2 := a1.1.stored (k * 5 + 2) (.int .i64 x.to)
  have a3 := a2.1.stored (k * 5 + 3) (.int .i64 x.inn)
  have a4 := a3.1.stored (k * 5 + 4) c
  refine ⟨_, a4.1, fun i y hi hy => ?_⟩
  by_cases e : i = k
  · subst e
    rw [hx] at hy
    obtain rfl := Option.some.inj hy
    refine ⟨c, by rw [set_keep _ _ _ _ (by omega)]; rw [set_keep _ _ _ _ (by omega)]; rw [set_keep _ _ _ _ (by omega)]; rw [set_keep _ _ _ _ (by omega)]; exact set_hit _ _ _ (by first | omega | (simp only [List.length_set]; omega)), by rw [set_keep _ _ _ _ (by omega)]; rw [set_keep _ _ _ _ (by omega)]; rw [set_keep _ _ _ _ (by omega)]; exact set_hit _ _ _ (by first | omega | (simp only [List.length_set]; omega)), by rw [set_keep _ _ _ _ (by omega)]; rw [set_keep _ _ _ _ (by omega)]; exact set_hit _ _ _ (by first | omega | (simp only [List.length_set]; omega)), by rw [set_keep _ _ _ _ (by omega)]; exact set_hit _ _ _ (by first | omega | (simp only [List.length_set]; omega)), by exact set_hit _ _ _ (by first | omega | (simp only [List.length_set]; omega)), ?_⟩
    exact (((((hc.setB (by show g < g + 1; omega) _).setB (by show g < g + 1; omega) _).setB (by show g < g + 1; omega) _).setB (by show g < g + 1; omega) _).setB (by show g < g + 1; omega) _)
  · obtain ⟨u, hu⟩ := h2 i y (by omega) hy
    refine ⟨u, by rw [set_keep _ _ _ _ (by omega)]; rw [set_keep _ _ _ _ (by omega)]; rw [set_keep _ _ _ _ (by omega)]; rw [set_keep _ _ _ _ (by omega)]; rw [set_keep _ _ _ _ (by omega)]; exact hu.1, by rw [set_keep _ _ _ _ (by omega)]; rw [set_keep _ _ _ _ (by omega)]; rw [set_keep _ _ _ _ (by omega)]; rw [set_keep _ _ _ _ (by omega)]; rw [set_keep _ _ _ _ (by omega)]; exact hu.2.1, by rw [set_keep _ _ _ _ (by omega)]; rw [set_keep _ _ _ _ (by omega)]; rw [set_keep _ _ _ _ (by omega)]; rw [set_keep _ _ _ _ (by omega)]; rw [set_keep _ _ _ _ (by omega)]; exact hu.2.2.1, by rw [set_keep _ _ _ _ (by omega)]; rw [set_keep _ _ _ _ (by omega)]; rw [set_keep _ _ _ _ (by omega)]; rw [set_keep _ _ _ _ (by omega)]; rw [set_keep _ _ _ _ (by omega)]; exact hu.2.2.2.1, by rw [set_keep _ _ _ _ (by omega)]; rw [set_keep _ _ _ _ (by omega)]; rw [set_keep _ _ _ _ (by omega)]; rw [set_keep _ _ _ _ (by omega)]; rw [set_keep _ _ _ _ (by omega)]; exact hu.2.2.2.2.1, ?_⟩
    exact ((((((hu.2.2.2.2.2).setB (by show g < g + 1; omega) _).setB (by show g < g + 1; omega) _).setB (by show g < g + 1; omega) _).setB (by show g < g + 1; omega) _).setB (by show g < g + 1; omega) _)
theorem LnksO.setB {g m k : Nat} {w : World} {xs : List Lnk} (h : LnksO g m w xs k) {a : Addr} (ha : a.block < g) (u : Value) : LnksO g m (w.setCell a u) xs k := by
  obtain ⟨cs, h1, h2⟩ := h
  refine ⟨cs, ownsRow_setCell_below h1 ha u, fun i x hi hx => ?_⟩
  obtain ⟨c, hc⟩ := h2 i x hi hx
  exact ⟨c, hc.1, hc.2.1, hc.2.2.1, hc.2.2.2.1, hc.2.2.2.2.1, (hc.2.2.2.2.2).setB (by omega) u⟩
theorem LnksO.done {g m : Nat} {w : World} {xs : List Lnk} (h : LnksO g m w xs m) (hm : xs.length = m) (hw : ∀ l ∈ xs, wfL l) : SlL w (.slice (some ⟨g, 0, none⟩) m m) xs := by
  obtain ⟨cs, h1, h2⟩ := h
  have hcap : m ≤ maxLen := by
    rcases h1.2 with ⟨h', _⟩ | ⟨g', cap', cur, h', _, _, _, hcm, _⟩
    · simp at h'
    · simp only [Value.slice.injEq] at h'
      omega
  have hg : g < w.heap.size := (World.ownsRow.lt h1 g rfl).2
  refine ⟨some ⟨g, 0, none⟩, m, by rw [hm], by omega, hcap, (fun e => by cases e), .inr ⟨g, 0, rfl, hg, fun i x hi => ?_⟩⟩
  have hlt : i < m := by rw [← hm]; exact (List.getElem?_eq_some_iff.1 hi).1
  obtain ⟨c, hc⟩ := h2 i x hlt hi
  simp only [Nat.zero_add]
  exact ⟨c, (h1.cellAt _ (by omega)).trans (hc.1), (h1.cellAt _ (by omega)).trans (hc.2.1), (h1.cellAt _ (by omega)).trans (hc.2.2.1), (h1.cellAt _ (by omega)).trans (hc.2.2.2.1), (h1.cellAt _ (by omega)).trans (hc.2.2.2.2.1), hw x (List.mem_of_getElem? hi), (hc.2.2.2.2.2).sl⟩

theorem rowltL {g m k : Nat} {w : World} {xs : List Lnk} (h : LnksO g m w xs k) : g < w.heap.size := by
  obtain ⟨cs, h1, _⟩ := h
  exact (World.ownsRow.lt h1 g rfl).2
set_option maxRecDepth 100000 in
set_option maxHeartbeats 1600000 in
theorem toLinkS_any (v : Value) (xs : List Lnk) (w : World) (h : SlL w v xs) (hs : xs.length ≤ 1048576) (hs2 : ∀ x ∈ xs, x.tok.length ≤ 1048576) :
    Calls Try.prog 62 #[v] w fun e w' => e = .returned (.slice (some ⟨w.heap.size, 0, none⟩) xs.length xs.length) ∧ LnksO w.heap.size xs.length w' xs xs.length ∧ RowA 5 w.heap.size w'.heap.size w' xs.length ∧ Below w.heap.size w w' := by
  have HS2 := Lib.hid hs2
  obtain ⟨a, cap, rfl, hl, hm, hn, hc⟩ := h
  clear hm hn hl hs2
  obtain ⟨m, hmm⟩ : ∃ m, m = xs.length := ⟨_, rfl⟩
  rw [← hmm] at hs ⊢
  have HM := Lib.hid hmm
  clear hmm
  obtain ⟨i0, hi, hz0, hz1, hz2⟩ := infoL_parts
  go_enter Try.func62, Try.ntmps62
  go_wp2_with (at_make; refine wpList_make_full _ rfl _ _ 32 rfl w.heap.size 82 i0 (.agg #[.int .i64 0, .int .i64 0, .int .i64 0, .int .i64 0, .slice none 0 0]) 5 Try.underlying32 hi hz0 hz1 _ _ _ _ m rfl rfl rfl rfl ?b2 ?b3 ?b4 ?_)
  case b2 => rw [hz2]; omega
  case b3 => unfold maxLen; omega
  case b4 => exact Nat.le_refl _
  intro w1 hown hgrow
  have hb := Lib.hid ((Below.refl w.heap.size w).grown hgrow (Nat.le_refl _) (by simp))
  have HO := Lib.hid (show LnksO w.heap.size m w1 xs 0 from ⟨_, hown, fun i x hi => absurd hi (by omega)⟩)
  clear hgrow hi hz0 hz1 hz2 hown
  go_wp2_with fail
  go_loopw [4] (fun i wr => ∃ k : Nat, k ≤ m ∧ i = .int .i64 k ∧ Hid (LnksO w.heap.size m wr xs k) ∧ Hid (RowA 5 w.heap.size wr.heap.size wr k) ∧ Hid (Below w.heap.size w wr)) (fun i _ => m - (intOf i).toNat)
  case atStart => exact ⟨0, Nat.zero_le _, rfl, HO, Lib.hid (RowA.start _ _ _ _), hb⟩
  case round =>
    obtain ⟨k, hk, rfl, HR, HA, HB⟩ := hrel
    by_cases hlt : k < m
    · rcases hc with rfl | ⟨b, off, rfl, hbl, hcell⟩
      · exact absurd hlt (by have := HM.out; simp at this; omega)
      · obtain ⟨x, hx⟩ : ∃ x, xs[k]? = some x := ⟨_, List.getElem?_eq_getElem (by rw [← HM.out]; exact hlt)⟩
        obtain ⟨u, e0, e1, e2, e3, e4, ee⟩ := hcell k x hx
        obtain ⟨ua, uc, e6⟩ := (ee.2).shape
        have HS := Lib.hid ((ee.2).below HB.out)
        have c0 := (HB.out.cell (p := ⟨b, off + k * 5, none⟩) hbl).trans e0
        have c1 := (HB.out.cell (p := ⟨b, off + k * 5 + 1, none⟩) hbl).trans e1
        have c2 := (HB.out.cell (p := ⟨b, off + k * 5 + 2, none⟩) hbl).trans e2
        have c3 := (HB.out.cell (p := ⟨b, off + k * 5 + 3, none⟩) hbl).trans e3
        have c4 := (HB.out.cell (p := ⟨b, off + k * 5 + 4, none⟩) hbl).trans e4
        have hbl2 : b < wr.heap.size := Nat.lt_of_lt_of_le hbl HB.out.size
        have HX := Lib.hid hx
        have hsx := HS2.out x (List.mem_of_getElem? hx)
        clear hx hcell e0 e1 e2 e3 e4 ee
        obtain ⟨xf, xo, xt, xi, pc⟩ := x
        simp only [] at c0 c1 c2 c3 c4 e6 HS hsx
        obtain ⟨ul, hul⟩ : ∃ z, z = pc.length := ⟨_, rfl⟩
        have HSX := Lib.hid hsx
        rw [← hul] at e6
        clear hul hsx
        subst e6
        go_wp2_with (go_at_call 114; refine (toLnk_any _ ⟨xf, xo, xt, xi, pc⟩ _ ⟨_, rfl, HS.out⟩ HSX.out).mono ?_; rintro e w2 ⟨v', rfl, ⟨c', rfl, ho⟩, hb1⟩; obtain ⟨ga, gc, rfl⟩ := ho.shape; have HU1 := Lib.hid ho.lt; have HSZ := Lib.hid hb1.size; have HA1 := Lib.hid (HA.out.below hb1 (rowltL HR.out)); have HO1 := Lib.hid (Own.mono (lo' := w.heap.size + 1) ho (by have h1 := HB.out.size; have h2 := rowltL HR.out; omega)); have HR1 := Lib.hid (HR.out.below hb1); have HB1 := Lib.hid (HB.out.trans (hb1.mono HB.out.size)); have Z := HR1.out.cellZ hlt; obtain ⟨z0, z1, z2, z3, z4, ⟨y0, k0⟩, ⟨y1, k1⟩, ⟨y2, k2⟩, ⟨y3, k3⟩, ⟨y4, k4⟩⟩ := Z; clear ho hb1)
        go_roundw
        case rel =>
          have q1 := HR1.out.step (x := ⟨xf, xo, xt, xi, pc⟩) hlt HX.out HO1.out
          have q2 := (((((HB1.out.setCell (p := ⟨w.heap.size, k * 5, none⟩) (Nat.le_refl _) (.int .i64 xf)).setCell (p := ⟨w.heap.size, k * 5 + 1, none⟩) (Nat.le_refl _) (.int .i64 xo)).setCell (p := ⟨w.heap.size, k * 5 + 2, none⟩) (Nat.le_refl _) (.int .i64 xt)).setCell (p := ⟨w.heap.size, k * 5 + 3, none⟩) (Nat.le_refl _) (.int .i64 xi)).setCell (p := ⟨w.heap.size, k * 5 + 4, none⟩) (Nat.le_refl _) (.slice ga pc.length gc))
          have q3 := HA1.out.step5 (a := (.int .i64 xf)) (b := (.int .i64 xo)) (c := (.int .i64 xt)) (d := (.int .i64 xi)) (x := (.slice ga pc.length gc)) ⟨_, k4⟩ HU1.out HSZ.out
          exact ⟨k + 1, by omega, by go_num, Lib.hid q1, Lib.hid q3, Lib.hid q2⟩
        case measure => simp [intOf]; omega
    · go_wp2_with fail
      go_ret
      have := HR.out
      have hA := HA.out
      rw [show k = m by omega] at this hA
      exact ⟨rfl, this, hA, HB.out⟩

def szN (n : Net) : Nat := n.progs.length + (n.progs.map fun p => p.code.length).sum + (n.links.length + (n.links.map fun l => l.tok.length).sum)
theorem le_sum {α : Type} {f : α → Nat} : ∀ {xs : List α} {x : α}, x ∈ xs → f x ≤ (xs.map f).sum
  | [], x, h => by simp at h
  | y :: ys, x, h => by
    rw [List.map_cons, List.sum_cons]
    rcases List.mem_cons.1 h with rfl | h
    · omega
    · have := le_sum (f := f) h; omega

/-- A network of the call's own: the rows of its programs and of its links, and what they hold, lie from the block lo on. -/
def NetO (lo hi : Nat) (w : World) (v : Value) (n : Net) : Prop := ∃ g h, v = .agg #[.slice (some ⟨g, 0, none⟩) n.progs.length n.progs.length, .slice (some ⟨h, 0, none⟩) n.links.length n.links.length] ∧ (lo ≤ g ∧ g < hi) ∧ (lo ≤ h ∧ h < hi) ∧ PrgsO g n.progs.length w n.progs n.progs.length ∧ LnksO h n.links.length w n.links n.links.length ∧ RowA 3 g hi w n.progs.length ∧ RowA 5 h hi w n.links.length
theorem NetO.v {lo hi : Nat} {w : World} {v : Value} {n : Net} (h : NetO lo hi w v n) (hw : ∀ l ∈ n.links, wfL l) : NetV w v n := by
  obtain ⟨g, k, rfl, _, _, hp, hl, _⟩ := h
  exact ⟨_, _, rfl, hp.done rfl, hl.done rfl hw⟩
theorem NetO.below {lo hi : Nat} {w w' : World} {v : Value} {n : Net} (h : NetO lo hi w v n) (hb : Below w.heap.size w w') : NetO lo hi w' v n := by
  obtain ⟨g, k, h1, h2, h3, hp, hl, ap, al⟩ := h
  exact ⟨g, k, h1, h2, h3, hp.below hb, hl.below hb, ap.below hb (rowltP hp), al.below hb (rowltL hl)⟩
theorem RowA.setB {n g hi k : Nat} {w : World} (h : RowA n g hi w k) {a : Addr} (ha : a.block < g) (u : Value) : RowA n g hi (w.setCell a u) k := h.same fun _ _ => World.cell?_setCell_other _ _ _ _ (fun e => by rw [e] at ha; simp at ha)
theorem set0_blkN {w : World} {g T : Nat} {u0 u1 : Value} (h : w.heap[g]? = some (.cells #[u0, u1] T)) (v : Value) : (w.setCell ⟨g, 0, none⟩ v).heap[g]? = some (.cells #[v, u1] T) := by
  rw [heap_setCell_same w g 0 #[u0, u1] T v h]; rfl
theorem setR_blkN {w : World} {g r j : Nat} {o : Obj} (h : w.heap[g]? = some o) (hne : g ≠ r) (v : Value) : (w.setCell ⟨r, j, none⟩ v).heap[g]? = some o := by
  rw [Below.heap_setCell _ _ _ _ hne]; exact h

set_option maxRecDepth 100000 in
set_option maxHeartbeats 1600000 in
theorem toNet_any (v : Value) (n : Net) (w : World) (h : NetV w v n) (hs : szN n ≤ 1048576) :
    Calls Try.prog 18 #[v] w fun e w' => ∃ v', e = .returned v' ∧ NetO w.heap.size w'.heap.size w' v' n ∧ Below w.heap.size w w' := by
  obtain ⟨c, d, rfl, hp, hl⟩ := h
  obtain ⟨ps, ls⟩ := n
  unfold szN at hs
  simp only [] at hp hl hs ⊢
  have S1 := Lib.hid (show ps.length ≤ 1048576 by omega)
  have S2 := Lib.hid (show ls.length ≤ 1048576 by omega)
  have S3 := Lib.hid (show ∀ x ∈ ps, x.code.length ≤ 1048576 from fun x hx => by have := le_sum (f := fun p : Prg => p.code.length) hx; omega)
  have S4 := Lib.hid (show ∀ x ∈ ls, x.tok.length ≤ 1048576 from fun x hx => by have := le_sum (f := fun p : Lnk => p.tok.length) hx; omega)
  have HP := Lib.hid hp
  have HL := Lib.hid hl
  obtain ⟨pa, pcap, rfl⟩ := hp.shape
  obtain ⟨la, lcap, rfl⟩ := hl.shape
  have CP := Lib.hid (fun W (hw : Below w.heap.size w W) => toProgramS_any _ ps W (HP.out.below hw) S1.out S3.out)
  have CL := Lib.hid (fun W (hw : Below w.heap.size w W) => toLinkS_any _ ls W (HL.out.below hw) S2.out S4.out)
  obtain ⟨m, hm⟩ : ∃ m, m = ps.length := ⟨_, rfl⟩
  obtain ⟨n, hn⟩ : ∃ n, n = ls.length := ⟨_, rfl⟩
  rw [← hm] at CP ⊢
  rw [← hn] at CL ⊢
  have HM := Lib.hid hm
  have HN := Lib.hid hn
  clear hp hl hs hm hn HP HL
  have hb := Lib.hid ((((Below.refl w.heap.size w).al (.cells #[.slice pa m pcap, .slice la n lcap] 25)).al (.cells #[.slice none 0 0, .slice none 0 0] 34)).al (.cells #[.slice none 0 0, .slice none 0 0] 34))
  have hH3 := Lib.hid (hp3 w (.cells #[.slice pa m pcap, .slice la n lcap] 25) (.cells #[.slice none 0 0, .slice none 0 0] 34) (.cells #[.slice none 0 0, .slice none 0 0] 34))
  have hH2 := Lib.hid (hp32 w (.cells #[.slice pa m pcap, .slice la n lcap] 25) (.cells #[.slice none 0 0, .slice none 0 0] 34) (.cells #[.slice none 0 0, .slice none 0 0] 34))
  have hH1 := Lib.hid (hp31 w (.cells #[.slice pa m pcap, .slice la n lcap] 25) (.cells #[.slice none 0 0, .slice none 0 0] 34) (.cells #[.slice none 0 0, .slice none 0 0] 34))
  go_enter Try.func18, Try.ntmps18
  go_wp2_with (go_at_call 61; with_reducible refine (CP.out _ hb.out).mono ?_; rintro e w2 ⟨rfl, ho, ra, hb1⟩; rw [show ((((w.alloc (.cells #[.slice pa m pcap, .slice la n lcap] 25)).alloc (.cells #[.slice none 0 0, .slice none 0 0] 34)).alloc (.cells #[.slice none 0 0, .slice none 0 0] 34))).heap.size = w.heap.size + 3 by simp] at ho ra ⊢; have HO2 := Lib.hid ho; have RA2 := Lib.hid ra; clear ra; have HB2 := Lib.hid (hb.out.trans (hb1.mono (by simp; omega))); have HS2 := Lib.hid (show w.heap.size + 3 ≤ w2.heap.size by have := hb1.size; simp at this; omega); have B1 := blk_in hH1.out hb1; have B2 := blk_in hH2.out hb1; have B3 := blk_in hH3.out hb1; obtain ⟨a0, a1⟩ := cells2 B1; have al := lt_of B1; obtain ⟨r0, r1⟩ := cells2 B2; have rl := lt_of B2; obtain ⟨o0, o1⟩ := cells2 B3; have ol := lt_of B3; have oz0 := fr_of B3 0; have oz1 := fr_of B3 1; have rz0 := fr_of B2 0; have rz1 := fr_of B2 1; have G1 := Lib.hid B1; have G2 := Lib.hid B2; have G3 := Lib.hid B3; clear ho hb1 B1 B2 B3)
  go_at_call 62
  refine (CL.out _ (HB2.out.setCell (p := ⟨w.heap.size + 1 + 1, 0, none⟩) (by show w.heap.size ≤ w.heap.size + 1 + 1; omega) _)).mono ?_
  rintro e w4 ⟨rfl, hq, rl, hb4⟩
  have hsz : (w2.setCell ⟨w.heap.size + 1 + 1, 0, none⟩ (.slice (some ⟨w.heap.size + 3, 0, none⟩) m m)).heap.size = w2.heap.size := by simp [World.setCell]
  rw [hsz] at hq rl ⊢
  have HQ4 := Lib.hid hq
  have RL4 := Lib.hid rl
  have HS4 := Lib.hid (show w2.heap.size ≤ w4.heap.size by have := hb4.size; rw [hsz] at this; exact this)
  have RA4 := Lib.hid (((RA2.out.setB (a := ⟨w.heap.size + 1 + 1, 0, none⟩) (by show w.heap.size + 1 + 1 < w.heap.size + 3; omega) (.slice (some ⟨w.heap.size + 3, 0, none⟩) m m)).below hb4 (by rw [hsz]; exact rowltP HO2.out)).more HS4.out)
  clear rl
  have HB4 := Lib.hid ((HB2.out.setCell (p := ⟨w.heap.size + 1 + 1, 0, none⟩) (by show w.heap.size ≤ w.heap.size + 1 + 1; omega) (.slice (some ⟨w.heap.size + 3, 0, none⟩) m m)).trans (hb4.mono (by rw [hsz]; exact HB2.out.size)))
  have HO4 := Lib.hid ((HO2.out.setB (a := ⟨w.heap.size + 1 + 1, 0, none⟩) (by show w.heap.size + 1 + 1 < w.heap.size + 3; omega) (.slice (some ⟨w.heap.size + 3, 0, none⟩) m m)).below hb4)
  have B1 := blk_in (setR_blkN G1.out (by omega) _) hb4
  have B2 := blk_in (setR_blkN G2.out (by omega) _) hb4
  have B3 := blk_in (set0_blkN G3.out _) hb4
  clear a0 a1 al r0 r1 rl o0 o1 ol oz0 oz1 rz0 rz1
  obtain ⟨a0, a1⟩ := cells2 B1
  have al := lt_of B1
  obtain ⟨r0, r1⟩ := cells2 B2
  have rl := lt_of B2
  obtain ⟨o0, o1⟩ := cells2 B3
  have ol := lt_of B3
  have oz0 := fr_of B3 0
  have oz1 := fr_of B3 1
  have rz0 := fr_of B2 0
  have rz1 := fr_of B2 1
  clear hq hb4 B1 B2 B3 hsz
  go_wp2_with fail
  obtain rfl := HM.out
  obtain rfl := HN.out
  refine bodyPost_ret (v := .agg #[.slice (some ⟨w.heap.size + 3, 0, none⟩) ps.length ps.length, .slice (some ⟨w2.heap.size, 0, none⟩) ls.length ls.length]) (by simp [results, Try.results18, go_sem, r0, r1]) rfl ⟨_, rfl, ⟨w.heap.size + 3, w2.heap.size, rfl, ⟨by omega, by have := HS4.out; have := rowltP HO2.out; simp; omega⟩, ⟨by have := HB2.out.size; omega, by have := rowltL HQ4.out; simp; omega⟩, ?_, ?_, ?_, ?_⟩, ?_⟩
  · exact ((HO4.out.setB (by show w.heap.size + 1 + 1 < _; omega) _).setB (by show w.heap.size + 1 < _; omega) _).setB (by show w.heap.size + 1 < _; omega) _
  · exact ((HQ4.out.setB (by show w.heap.size + 1 + 1 < _; have := HS2.out; omega) _).setB (by show w.heap.size + 1 < _; have := HS2.out; omega) _).setB (by show w.heap.size + 1 < _; have := HS2.out; omega) _
  · rw [World.size_setCell, World.size_setCell, World.size_setCell]
    exact (((RA4.out.setB (by show w.heap.size + 1 + 1 < _; omega) _).setB (by show w.heap.size + 1 < _; omega) _).setB (by show w.heap.size + 1 < _; omega) _)
  · rw [World.size_setCell, World.size_setCell, World.size_setCell]
    exact (((RL4.out.setB (by show w.heap.size + 1 + 1 < _; have := HS2.out; omega) _).setB (by show w.heap.size + 1 < _; have := HS2.out; omega) _).setB (by show w.heap.size + 1 < _; have := HS2.out; omega) _)
  · exact ((HB4.out.setCell (by show w.heap.size ≤ w.heap.size + 1 + 1; omega) _).setCell (by show w.heap.size ≤ w.heap.size + 1; omega) _).setCell (by show w.heap.size ≤ w.heap.size + 1; omega) _
end Go.Proofs.Ytjphamgkigekkaa
