/-
  Copies of a network by the law's own functions. No statement of the seat is proved here.
  Sizes of networks by the law's own functions. No statement of the seat is proved here.
  Comparisons of networks by the law's own functions. No statement of the seat is proved here.
  Slices of slices of ints by the law's own functions: copies. No statement of the seat is proved here.
  Marks on a network of the call's own. No statement of the seat is proved here.
-/
import Derived.Test.YtkeoefbkeommhaaSNet
import Derived.Test.YtkeoefbkeommhaaPrg
import Derived.Deep.RegionWith
import Derived.Deep.RegionHeld3
import Derived.Test.YtkeoefbkeommhaaRgf
namespace Go.Proofs.Ytkeoefbkeommhaa
open Go.RowKit

def LnkV (w : World) (v : Value) (l : Lnk) : Prop := ∃ c, v = .agg #[.int .i64 l.frm, .int .i64 l.out, .int .i64 l.to, .int .i64 l.inn, c] ∧ Sl w c l.tok
def LnkO (lo : Nat) (w : World) (v : Value) (l : Lnk) : Prop := ∃ c, v = .agg #[.int .i64 l.frm, .int .i64 l.out, .int .i64 l.to, .int .i64 l.inn, c] ∧ Own lo w c l.tok
theorem set_keep {α : Type} (cs : List α) (a i : Nat) (v : α) (h : i ≠ a) : (cs.set a v)[i]? = cs[i]? := by rw [List.getElem?_set_ne (fun e => h e.symm)]
theorem set_hit {α : Type} (cs : List α) (a : Nat) (v : α) (h : a < cs.length) : (cs.set a v)[a]? = some v := by rw [List.getElem?_set_self h]
/-- What the first k rows of the block g hold lies below the block hi, each in a block of its own. -/
structure RowA (n g hi : Nat) (w : World) (k : Nat) : Prop where
  lt : ∀ i c, i < k → w.cell? ⟨g, i * n + (n - 1), none⟩ = some c → ∀ q, c.ownBlock = some q → q < hi
  ap : ∀ i j c d, i < j → j < k → w.cell? ⟨g, i * n + (n - 1), none⟩ = some c → w.cell? ⟨g, j * n + (n - 1), none⟩ = some d → Apart c d
theorem RowA.start (n g hi : Nat) (w : World) : RowA n g hi w 0 := ⟨fun i c h => absurd h (by omega), fun i j c d _ h => absurd h (by omega)⟩
theorem RowA.same {n g hi k : Nat} {w w' : World} (h : RowA n g hi w k) (hs : ∀ i, i < k → w'.cell? ⟨g, i * n + (n - 1), none⟩ = w.cell? ⟨g, i * n + (n - 1), none⟩) : RowA n g hi w' k :=
  ⟨fun i c hi hc => h.lt i c hi (by rw [← hs i hi]; exact hc), fun i j c d hij hj hc hd => h.ap i j c d hij hj (by rw [← hs i (by omega)]; exact hc) (by rw [← hs j hj]; exact hd)⟩
theorem RowA.below {n g hi k : Nat} {w w' : World} (h : RowA n g hi w k) (hb : Below w.heap.size w w') (hg : g < w.heap.size) : RowA n g hi w' k := h.same fun _ _ => hb.cell hg
theorem RowA.more {n g hi hi' k : Nat} {w : World} (h : RowA n g hi w k) (hh : hi ≤ hi') : RowA n g hi' w k := ⟨fun i c hi hc q e => Nat.lt_of_lt_of_le (h.lt i c hi hc q e) hh, h.ap⟩
theorem RowA.step {n g hi hi' k : Nat} {w w' : World} {c : Value} (h : RowA n g hi w k) (hs : ∀ i, i < k → w'.cell? ⟨g, i * n + (n - 1), none⟩ = w.cell? ⟨g, i * n + (n - 1), none⟩) (hc : w'.cell? ⟨g, k * n + (n - 1), none⟩ = some c) (hl : ∀ q, c.ownBlock = some q → hi ≤ q ∧ q < hi') (hh : hi ≤ hi') : RowA n g hi' w' (k + 1) := by
  refine ⟨fun i d hi' hd q e => ?_, fun i j d d' hij hj hd hd' => ?_⟩
  · by_cases z : i = k
    · subst z
      rw [hc] at hd
      obtain rfl := Option.some.inj hd
      exact (hl q e).2
    · exact Nat.lt_of_lt_of_le (h.lt i d (by omega) (by rw [← hs i (by omega)]; exact hd) q e) hh
  · by_cases z : j = k
    · subst z
      rw [hc] at hd'
      obtain rfl := Option.some.inj hd'
      have h1 := h.lt i d hij (by rw [← hs i hij]; exact hd)
      cases q : d.ownBlock with
      | none => exact .inl q
      | some b =>
        right
        rw [q]
        intro e
        have := h1 b q
        have := (hl b e.symm).1
        omega
    · exact h.ap i j d d' hij (by omega) (by rw [← hs i (by omega)]; exact hd) (by rw [← hs j (by omega)]; exact hd')
theorem cell_off {w : World} {g a b : Nat} (v : Value) (h : a ≠ b) : (w.setCell ⟨g, a, none⟩ v).cell? ⟨g, b, none⟩ = w.cell? ⟨g, b, none⟩ := World.cell?_setCell_other _ _ _ _ (fun e => h (congrArg Addr.off e))
theorem cell_on {w : World} {g a : Nat} (v : Value) (h : ∃ y, w.cell? ⟨g, a, none⟩ = some y) : (w.setCell ⟨g, a, none⟩ v).cell? ⟨g, a, none⟩ = some v := by obtain ⟨y, h⟩ := h; exact World.cell?_setCell_same _ _ _ h
theorem RowA.step3 {g hi k : Nat} {w : World} {a b c : Value} (h : RowA 3 g hi w k) (hc : ∃ y, w.cell? ⟨g, k * 3 + 2, none⟩ = some y) (hl : ∀ q, c.ownBlock = some q → hi ≤ q ∧ q < w.heap.size) (hh : hi ≤ w.heap.size) :
    RowA 3 g (((w.setCell ⟨g, k * 3, none⟩ a).setCell ⟨g, k * 3 + 1, none⟩ b).setCell ⟨g, k * 3 + 2, none⟩ c).heap.size (((w.setCell ⟨g, k * 3, none⟩ a).setCell ⟨g, k * 3 + 1, none⟩ b).setCell ⟨g, k * 3 + 2, none⟩ c) (k + 1) := by
  rw [show (((w.setCell ⟨g, k * 3, none⟩ a).setCell ⟨g, k * 3 + 1, none⟩ b).setCell ⟨g, k * 3 + 2, none⟩ c).heap.size = w.heap.size by simp]
  refine h.step (fun i hi => ?_) (cell_on _ ?_) hl hh
  · rw [cell_off _ (by omega), cell_off _ (by omega), cell_off _ (by omega)]
  · rw [show k * 3 + (3 - 1) = k * 3 + 2 by omega] at *
    rw [cell_off _ (by omega), cell_off _ (by omega)]
    exact hc
theorem RowA.step5 {g hi k : Nat} {w : World} {a b c d x : Value} (h : RowA 5 g hi w k) (hc : ∃ y, w.cell? ⟨g, k * 5 + 4, none⟩ = some y) (hl : ∀ q, x.ownBlock = some q → hi ≤ q ∧ q < w.heap.size) (hh : hi ≤ w.heap.size) :
    RowA 5 g (((((w.setCell ⟨g, k * 5, none⟩ a).setCell ⟨g, k * 5 + 1, none⟩ b).setCell ⟨g, k * 5 + 2, none⟩ c).setCell ⟨g, k * 5 + 3, none⟩ d).setCell ⟨g, k * 5 + 4, none⟩ x).heap.size (((((w.setCell ⟨g, k * 5, none⟩ a).setCell ⟨g, k * 5 + 1, none⟩ b).setCell ⟨g, k * 5 + 2, none⟩ c).setCell ⟨g, k * 5 + 3, none⟩ d).setCell ⟨g, k * 5 + 4, none⟩ x) (k + 1) := by
  rw [show (((((w.setCell ⟨g, k * 5, none⟩ a).setCell ⟨g, k * 5 + 1, none⟩ b).setCell ⟨g, k * 5 + 2, none⟩ c).setCell ⟨g, k * 5 + 3, none⟩ d).setCell ⟨g, k * 5 + 4, none⟩ x).heap.size = w.heap.size by simp]
  refine h.step (fun i hi => ?_) (cell_on _ ?_) hl hh
  · rw [cell_off _ (by omega), cell_off _ (by omega), cell_off _ (by omega), cell_off _ (by omega), cell_off _ (by omega)]
  · rw [show k * 5 + (5 - 1) = k * 5 + 4 by omega] at *
    rw [cell_off _ (by omega), cell_off _ (by omega), cell_off _ (by omega), cell_off _ (by omega)]
    exact hc

set_option maxRecDepth 100000 in
set_option maxHeartbeats 1600000 in
theorem toLnk_any (v : Value) (l : Lnk) (w : World) (h : LnkV w v l) (hs : l.tok.length ≤ 1048576) :
    Calls Try.prog 107 #[v] w fun e w' => ∃ v', e = .returned v' ∧ LnkO w.heap.size w' v' l ∧ Below w.heap.size w w' := by
  obtain ⟨c, rfl, hc⟩ := h
  obtain ⟨f, o, t, i, tok⟩ := l
  simp only [] at hc hs ⊢
  obtain ⟨n, hn⟩ : ∃ n, n = tok.length := ⟨_, rfl⟩
  have HC := Lib.hid hc
  obtain ⟨a, cap, rfl, hrest⟩ := hc
  clear hrest
  rw [← hn] at HC hs ⊢
  have HN := Lib.hid hn
  clear hn
  have hb := Lib.hid ((((Below.refl w.heap.size w).al (.cells #[.int .i64 f, .int .i64 o, .int .i64 t, .int .i64 i, .slice a n cap] 124)).al (.cells #[.int .i64 0, .int .i64 0, .int .i64 0, .int .i64 0, .slice none 0 0] 68)).al (.cells #[.int .i64 f, .int .i64 o, .int .i64 t, .int .i64 i, .slice none 0 0] 68))
  have hH := Lib.hid (hp3 w (.cells #[.int .i64 f, .int .i64 o, .int .i64 t, .int .i64 i, .slice a n cap] 124) (.cells #[.int .i64 0, .int .i64 0, .int .i64 0, .int .i64 0, .slice none 0 0] 68) (.cells #[.int .i64 f, .int .i64 o, .int .i64 t, .int .i64 i, .slice none 0 0] 68))
  have hH1 := Lib.hid (hp32 w (.cells #[.int .i64 f, .int .i64 o, .int .i64 t, .int .i64 i, .slice a n cap] 124) (.cells #[.int .i64 0, .int .i64 0, .int .i64 0, .int .i64 0, .slice none 0 0] 68) (.cells #[.int .i64 f, .int .i64 o, .int .i64 t, .int .i64 i, .slice none 0 0] 68))
  go_enter Try.func107, Try.ntmps107
  go_wp2_with (go_at_call 15; refine (toInt_any _ tok _ (HC.out.below (hb.out.mono (by simp))) (by rw [← HN.out]; exact hs)).mono ?_; rintro e w2 ⟨v', rfl, ho, hb1⟩; have B := blk_in hH.out hb1; have B1 := blk_in hH1.out hb1; obtain ⟨c0, c1, c2, c3, c4⟩ := cells5 B; have z := fr_of B 4; obtain ⟨b0, b1, b2, b3, b4⟩ := cells5 B1; have y0 := fr_of B1 0; have y1 := fr_of B1 1; have y2 := fr_of B1 2; have y3 := fr_of B1 3; have y4 := fr_of B1 4; obtain ⟨a', cc', rfl⟩ := ho.shape; have HO := Lib.hid (Own.mono (lo' := w.heap.size + 3) ho (by simp)); have HB1 := Lib.hid hb1; clear B B1 ho hb1)
  refine bodyPost_ret (v := .agg #[.int .i64 f, .int .i64 o, .int .i64 t, .int .i64 i, .slice a' tok.length cc']) (by simp [results, Try.results107, go_sem, b0, b1, b2, b3, b4]) rfl ⟨_, rfl, ⟨_, rfl, ?_⟩, ?_⟩
  · exact ((((((HO.out.setB (by simp) _).setB (by simp) _).setB (by simp) _).setB (by simp) _).setB (by simp) _).setB (by simp) _).mono (by omega)
  · exact ((((((hb.out.trans (HB1.out.mono (by simp; omega))).setCell (by simp; omega) _).setCell (by simp) _).setCell (by simp) _).setCell (by simp) _).setCell (by simp) _).setCell (by simp) _

theorem infoP : (Try.prog.info? 79).map (fun i => (i.zero, i.size, i.bytes)) = some (some (.agg #[.int .i64 0, .int .i64 0, .slice none 0 0]), 3, 40) := by kernel_rfl
theorem infoP_parts : ∃ i0, Try.prog.info? 79 = some i0 ∧ i0.zero = some (.agg #[.int .i64 0, .int .i64 0, .slice none 0 0]) ∧ i0.size = 3 ∧ i0.bytes = 40 := by
  have h := infoP
  cases e : Try.prog.info? 79 with
  | none => rw [e] at h; cases h
  | some i =>
    rw [e] at h
    simp only [Option.map_some, Option.some.injEq, Prod.mk.injEq] at h
    exact ⟨i, rfl, h.1, h.2.1, h.2.2⟩
/-- The row g of the call's own holds the first k of these, and what they hold lies behind it. -/
def PrgsO (g m : Nat) (w : World) (xs : List Prg) (k : Nat) : Prop :=
  ∃ cs : List Value, w.ownsRow g 79 3 (.slice (some ⟨g, 0, none⟩) m m) m cs ∧ ∀ i x, i < k → xs[i]? = some x → ∃ c, cs[i * 3]? = some (.int .i64 x.ins) ∧ cs[i * 3 + 1]? = some (.int .i64 x.outs) ∧ cs[i * 3 + 2]? = some c ∧ OwnI (g + 1) w c x.code
theorem PrgsO.below {g m k : Nat} {w w' : World} {xs : List Prg} (h : PrgsO g m w xs k) (hb : Below w.heap.size w w') : PrgsO g m w' xs k := by
  obtain ⟨cs, h1, h2⟩ := h
  refine ⟨cs, row_below h1 hb, fun i x hi hx => ?_⟩
  obtain ⟨c, hc⟩ := h2 i x hi hx
  exact ⟨c, hc.1, hc.2.1, hc.2.2.1, (hc.2.2.2).below hb⟩
theorem PrgsO.cellZ {g m k : Nat} {w : World} {xs : List Prg} (h : PrgsO g m w xs k) (hk : k < m) : w.frozen? ⟨g, k * 3, none⟩ = false ∧ w.frozen? ⟨g, k * 3 + 1, none⟩ = false ∧ w.frozen? ⟨g, k * 3 + 2, none⟩ = false ∧ (∃ y, w.cell? ⟨g, k * 3, none⟩ = some y) ∧ (∃ y, w.cell? ⟨g, k * 3 + 1, none⟩ = some y) ∧ (∃ y, w.cell? ⟨g, k * 3 + 2, none⟩ = some y) := by
  obtain ⟨cs, h1, _⟩ := h
  have hl := h1.1
  have c : ∀ j, j < m * 3 → ∃ y, w.cell? ⟨g, j, none⟩ = some y := fun j hj => by
    rw [h1.cellAt j hj, List.getElem?_eq_getElem (by rw [hl]; exact hj)]; exact ⟨_, rfl⟩
  exact ⟨h1.frozenAt _, h1.frozenAt _, h1.frozenAt _, c _ (by omega), c _ (by omega), c _ (by omega)⟩
theorem PrgsO.step {g m k : Nat} {w : World} {xs : List Prg} {x : Prg} {c : Value} (h : PrgsO g m w xs k) (hk : k < m) (hx : xs[k]? = some x) (hc : OwnI (g + 1) w c x.code) : PrgsO g m (((w.setCell ⟨g, k * 3, none⟩ (.int .i64 x.ins)).setCell ⟨g, k * 3 + 1, none⟩ (.int .i64 x.outs)).setCell ⟨g, k * 3 + 2, none⟩ c) xs (k + 1) := by
  obtain ⟨cs, h1, h2⟩ := h
  have hl := h1.1
  have a0 := h1.stored (k * 3) (.int .i64 x.ins)
  have a1 := a0.1.stored (k * 3 + 1) (.int .i64 x.outs)
  have a2 := a1.1.stored (k * 3 + 2) c
  refine ⟨_, a2.1, fun i y hi hy => ?_⟩
  by_cases e : i = k
  · subst e
    rw [hx] at hy
    obtain rfl := Option.some.inj hy
    refine ⟨c, by rw [set_keep _ _ _ _ (by omega)]; rw [set_keep _ _ _ _ (by omega)]; exact set_hit _ _ _ (by first | omega | (simp only [List.length_set]; omega)), by rw [set_keep _ _ _ _ (by omega)]; exact set_hit _ _ _ (by first | omega | (simp only [List.length_set]; omega)), by exact set_hit _ _ _ (by first | omega | (simp only [List.length_set]; omega)), ?_⟩
    exact (((hc.setB (by show g < g + 1; omega) _).setB (by show g < g + 1; omega) _).setB (by show g < g + 1; omega) _)
  · obtain ⟨u, hu⟩ := h2 i y (by omega) hy
    refine ⟨u, by rw [set_keep _ _ _ _ (by omega)]; rw [set_keep _ _ _ _ (by omega)]; rw [set_keep _ _ _ _ (by omega)]; exact hu.1, by rw [set_keep _ _ _ _ (by omega)]; rw [set_keep _ _ _ _ (by omega)]; rw [set_keep _ _ _ _ (by omega)]; exact hu.2.1, by rw [set_keep _ _ _ _ (by omega)]; rw [set_keep _ _ _ _ (by omega)]; rw [set_keep _ _ _ _ (by omega)]; exact hu.2.2.1, ?_⟩
    exact ((((hu.2.2.2).setB (by show g < g + 1; omega) _).setB (by show g < g + 1; omega) _).setB (by show g < g + 1; omega) _)
theorem PrgsO.setB {g m k : Nat} {w : World} {xs : List Prg} (h : PrgsO g m w xs k) {a : Addr} (ha : a.block < g) (u : Value) : PrgsO g m (w.setCell a u) xs k := by
  obtain ⟨cs, h1, h2⟩ := h
  refine ⟨cs, ownsRow_setCell_below h1 ha u, fun i x hi hx => ?_⟩
  obtain ⟨c, hc⟩ := h2 i x hi hx
  exact ⟨c, hc.1, hc.2.1, hc.2.2.1, (hc.2.2.2).setB (by omega) u⟩
theorem PrgsO.done {g m : Nat} {w : World} {xs : List Prg} (h : PrgsO g m w xs m) (hm : xs.length = m) : SlP w (.slice (some ⟨g, 0, none⟩) m m) xs := by
  obtain ⟨cs, h1, h2⟩ := h
  have hcap : m ≤ maxLen := by
    rcases h1.2 with ⟨h', _⟩ | ⟨g', cap', cur, h', _, _, _, hcm, _⟩
    · simp at h'
    · simp only [Value.slice.injEq] at h'
      omega
  have hg : g < w.heap.size := (World.ownsRow.lt h1 g rfl).2
  refine ⟨some ⟨g, 0, none⟩, m, by rw [hm], by omega, hcap, (fun e => by cases e), .inr ⟨g, 0, rfl, hg, fun i x hi => ?_⟩⟩
  have hlt : i < m := by rw [← hm]; exact (List.getElem?_eq_some_iff.1 hi).1
  obtain ⟨c, hc⟩ := h2 i x hlt hi
  simp only [Nat.zero_add]
  exact ⟨c, (h1.cellAt _ (by omega)).trans (hc.1), (h1.cellAt _ (by omega)).trans (hc.2.1), (h1.cellAt _ (by omega)).trans (hc.2.2.1), (hc.2.2.2).sl⟩

theorem rowltP {g m k : Nat} {w : World} {xs : List Prg} (h : PrgsO g m w xs k) : g < w.heap.size := by
  obtain ⟨cs, h1, _⟩ := h
  exact (World.ownsRow.lt h1 g rfl).2
set_option maxRecDepth 100000 in
set_option maxHeartbeats 1600000 in
theorem toProgramS_any (v : Value) (xs : List Prg) (w : World) (h : SlP w v xs) (hs : xs.length ≤ 1048576) (hs2 : ∀ x ∈ xs, x.code.length ≤ 1048576) :
    Calls Try.prog 48 #[v] w fun e w' => e = .returned (.slice (some ⟨w.heap.size, 0, none⟩) xs.length xs.length) ∧ PrgsO w.heap.size xs.length w' xs xs.length ∧ RowA 3 w.heap.size w'.heap.size w' xs.length ∧ Below w.heap.size w w' := by
  have HS2 := Lib.hid hs2
  obtain ⟨a, cap, rfl, hl, hm, hn, hc⟩ := h
  clear hm hn hl hs2
  obtain ⟨m, hmm⟩ : ∃ m, m = xs.length := ⟨_, rfl⟩
  rw [← hmm] at hs ⊢
  have HM := Lib.hid hmm
  clear hmm
  obtain ⟨i0, hi, hz0, hz1, hz2⟩ := infoP_parts
  go_enter Try.func48, Try.ntmps48
  go_wp2_with (at_make; refine wpList_make_full _ rfl _ _ 28 rfl w.heap.size 79 i0 (.agg #[.int .i64 0, .int .i64 0, .slice none 0 0]) 3 Try.underlying28 hi hz0 hz1 _ _ _ _ m rfl rfl rfl rfl ?b2 ?b3 ?b4 ?_)
  case b2 => rw [hz2]; omega
  case b3 => unfold maxLen; omega
  case b4 => exact Nat.le_refl _
  intro w1 hown hgrow
  have hb := Lib.hid ((Below.refl w.heap.size w).grown hgrow (Nat.le_refl _) (by simp))
  have HO := Lib.hid (show PrgsO w.heap.size m w1 xs 0 from ⟨_, hown, fun i x hi => absurd hi (by omega)⟩)
  clear hgrow hi hz0 hz1 hz2 hown
  go_wp2_with fail
  go_loopw [4] (fun i wr => ∃ k : Nat, k ≤ m ∧ i = .int .i64 k ∧ Hid (PrgsO w.heap.size m wr xs k) ∧ Hid (RowA 3 w.heap.size wr.heap.size wr k) ∧ Hid (Below w.heap.size w wr)) (fun i _ => m - (intOf i).toNat)
  case atStart => exact ⟨0, Nat.zero_le _, rfl, HO, Lib.hid (RowA.start _ _ _ _), hb⟩
  case round =>
    obtain ⟨k, hk, rfl, HR, HA, HB⟩ := hrel
    by_cases hlt : k < m
    · rcases hc with rfl | ⟨b, off, rfl, hbl, hcell⟩
      · exact absurd hlt (by have := HM.out; simp at this; omega)
      · obtain ⟨x, hx⟩ : ∃ x, xs[k]? = some x := ⟨_, List.getElem?_eq_getElem (by rw [← HM.out]; exact hlt)⟩
        obtain ⟨u, e0, e1, e2, ee⟩ := hcell k x hx
        obtain ⟨ua, uc, e6⟩ := (ee).shape
        have HS := Lib.hid ((ee).below HB.out)
        have c0 := (HB.out.cell (p := ⟨b, off + k * 3, none⟩) hbl).trans e0
        have c1 := (HB.out.cell (p := ⟨b, off + k * 3 + 1, none⟩) hbl).trans e1
        have c2 := (HB.out.cell (p := ⟨b, off + k * 3 + 2, none⟩) hbl).trans e2
        have hbl2 : b < wr.heap.size := Nat.lt_of_lt_of_le hbl HB.out.size
        have HX := Lib.hid hx
        have hsx := HS2.out x (List.mem_of_getElem? hx)
        clear hx hcell e0 e1 e2 ee
        obtain ⟨pi, po, pc⟩ := x
        simp only [] at c0 c1 c2 e6 HS hsx
        obtain ⟨ul, hul⟩ : ∃ z, z = pc.length := ⟨_, rfl⟩
        have HSX := Lib.hid hsx
        rw [← hul] at e6
        clear hul hsx
        subst e6
        go_wp2_with (go_at_call 106; refine (toPrg_any _ ⟨pi, po, pc⟩ _ ⟨_, rfl, HS.out⟩ HSX.out).mono ?_; rintro e w2 ⟨v', rfl, ⟨c', rfl, ho⟩, hb1⟩; obtain ⟨ga, gc, rfl⟩ := ho.shape; have HU1 := Lib.hid ho.lt; have HSZ := Lib.hid hb1.size; have HA1 := Lib.hid (HA.out.below hb1 (rowltP HR.out)); have HO1 := Lib.hid (OwnI.mono (lo' := w.heap.size + 1) ho (by have h1 := HB.out.size; have h2 := rowltP HR.out; omega)); have HR1 := Lib.hid (HR.out.below hb1); have HB1 := Lib.hid (HB.out.trans (hb1.mono HB.out.size)); have Z := HR1.out.cellZ hlt; obtain ⟨z0, z1, z2, ⟨y0, k0⟩, ⟨y1, k1⟩, ⟨y2, k2⟩⟩ := Z; clear ho hb1)
        go_roundw
        case rel =>
          have q1 := HR1.out.step (x := ⟨pi, po, pc⟩) hlt HX.out HO1.out
          have q2 := (((HB1.out.setCell (p := ⟨w.heap.size, k * 3, none⟩) (Nat.le_refl _) (.int .i64 pi)).setCell (p := ⟨w.heap.size, k * 3 + 1, none⟩) (Nat.le_refl _) (.int .i64 po)).setCell (p := ⟨w.heap.size, k * 3 + 2, none⟩) (Nat.le_refl _) (.slice ga pc.length gc))
          have q3 := HA1.out.step3 (a := (.int .i64 pi)) (b := (.int .i64 po)) (c := (.slice ga pc.length gc)) ⟨_, k2⟩ HU1.out HSZ.out
          exact ⟨k + 1, by omega, by go_num, Lib.hid q1, Lib.hid q3, Lib.hid q2⟩
        case measure => simp [intOf]; omega
    · go_wp2_with fail
      go_ret
      have := HR.out
      have hA := HA.out
      rw [show k = m by omega] at this hA
      exact ⟨rfl, this, hA, HB.out⟩

theorem infoL : (Try.prog.info? 68).map (fun i => (i.zero, i.size, i.bytes)) = some (some (.agg #[.int .i64 0, .int .i64 0, .int .i64 0, .int .i64 0, .slice none 0 0]), 5, 56) := by kernel_rfl
theorem infoL_parts : ∃ i0, Try.prog.info? 68 = some i0 ∧ i0.zero = some (.agg #[.int .i64 0, .int .i64 0, .int .i64 0, .int .i64 0, .slice none 0 0]) ∧ i0.size = 5 ∧ i0.bytes = 56 := by
  have h := infoL
  cases e : Try.prog.info? 68 with
  | none => rw [e] at h; cases h
  | some i =>
    rw [e] at h
    simp only [Option.map_some, Option.some.injEq, Prod.mk.injEq] at h
    exact ⟨i, rfl, h.1, h.2.1, h.2.2⟩
/-- The row g of the call's own holds the first k of these, and what they hold lies behind it. -/
def LnksO (g m : Nat) (w : World) (xs : List Lnk) (k : Nat) : Prop :=
  ∃ cs : List Value, w.ownsRow g 68 5 (.slice (some ⟨g, 0, none⟩) m m) m cs ∧ ∀ i x, i < k → xs[i]? = some x → ∃ c, cs[i * 5]? = some (.int .i64 x.frm) ∧ cs[i * 5 + 1]? = some (.int .i64 x.out) ∧ cs[i * 5 + 2]? = some (.int .i64 x.to) ∧ cs[i * 5 + 3]? = some (.int .i64 x.inn) ∧ cs[i * 5 + 4]? = some c ∧ Own (g + 1) w c x.tok
theorem LnksO.below {g m k : Nat} {w w' : World} {xs : List Lnk} (h : LnksO g m w xs k) (hb : Below w.heap.size w w') : LnksO g m w' xs k := by
  obtain ⟨cs, h1, h2⟩ := h
  refine ⟨cs, row_below h1 hb, fun i x hi hx => ?_⟩
  obtain ⟨c, hc⟩ := h2 i x hi hx
  exact ⟨c, hc.1, hc.2.1, hc.2.2.1, hc.2.2.2.1, hc.2.2.2.2.1, (hc.2.2.2.2.2).below hb⟩
theorem LnksO.cellZ {g m k : Nat} {w : World} {xs : List Lnk} (h : LnksO g m w xs k) (hk : k < m) : w.frozen? ⟨g, k * 5, none⟩ = false ∧ w.frozen? ⟨g, k * 5 + 1, none⟩ = false ∧ w.frozen? ⟨g, k * 5 + 2, none⟩ = false ∧ w.frozen? ⟨g, k * 5 + 3, none⟩ = false ∧ w.frozen? ⟨g, k * 5 + 4, none⟩ = false ∧ (∃ y, w.cell? ⟨g, k * 5, none⟩ = some y) ∧ (∃ y, w.cell? ⟨g, k * 5 + 1, none⟩ = some y) ∧ (∃ y, w.cell? ⟨g, k * 5 + 2, none⟩ = some y) ∧ (∃ y, w.cell? ⟨g, k * 5 + 3, none⟩ = some y) ∧ (∃ y, w.cell? ⟨g, k * 5 + 4, none⟩ = some y) := by
  obtain ⟨cs, h1, _⟩ := h
  have hl := h1.1
  have c : ∀ j, j < m * 5 → ∃ y, w.cell? ⟨g, j, none⟩ = some y := fun j hj => by
    rw [h1.cellAt j hj, List.getElem?_eq_getElem (by rw [hl]; exact hj)]; exact ⟨_, rfl⟩
  exact ⟨h1.frozenAt _, h1.frozenAt _, h1.frozenAt _, h1.frozenAt _, h1.frozenAt _, c _ (by omega), c _ (by omega), c _ (by omega), c _ (by omega), c _ (by omega)⟩
theorem LnksO.step {g m k : Nat} {w : World} {xs : List Lnk} {x : Lnk} {c : Value} (h : LnksO g m w xs k) (hk : k < m) (hx : xs[k]? = some x) (hc : Own (g + 1) w c x.tok) : LnksO g m (((((w.setCell ⟨g, k * 5, none⟩ (.int .i64 x.frm)).setCell ⟨g, k * 5 + 1, none⟩ (.int .i64 x.out)).setCell ⟨g, k * 5 + 2, none⟩ (.int .i64 x.to)).setCell ⟨g, k * 5 + 3, none⟩ (.int .i64 x.inn)).setCell ⟨g, k * 5 + 4, none⟩ c) xs (k + 1) := by
  obtain ⟨cs, h1, h2⟩ := h
  have hl := h1.1
  have a0 := h1.stored (k * 5) (.int .i64 x.frm)
  have a1 := a0.1.stored (k * 5 + 1) (.int .i64 x.out)
  have a2 := a1.1.stored (k * 5 + 2) (.int .i64 x.to)
  have a3 := a2.1.stored (k * 5 + 3) (.int .i64 x.inn)
  have a4 := a3.1.stored (k * 5 + 4) c
  refine ⟨_, a4.1, fun i y hi hy => ?_⟩
  by_cases e : i = k
  · subst e
    rw [hx] at hy
    obtain rfl := Option.some.inj hy
    refine ⟨c, by rw [set_keep _ _ _ _ (by omega)]; rw [set_keep _ _ _ _ (by omega)]; rw [set_keep _ _ _ _ (by omega)]; rw [set_keep _ _ _ _ (by omega)]; exact set_hit _ _ _ (by first | omega | (simp only [List.length_set]; omega)), by rw [set_keep _ _ _ _ (by omega)]; rw [set_keep _ _ _ _ (by omega)]; rw [set_keep _ _ _ _ (by omega)]; exact set_hit _ _ _ (by first | omega | (simp only [List.length_set]; omega)), by rw [set_keep _ _ _ _ (by omega)]; rw [set_keep _ _ _ _ (by omega)]; exact set_hit _ _ _ (by first | omega | (simp only [List.length_set]; omega)), by rw [set_keep _ _ _ _ (by omega)]; exact set_hit _ _ _ (by first | omega | (simp only [List.length_set]; omega)), by exact set_hit _ _ _ (by first | omega | (simp only [List.length_set]; omega)), ?_⟩
    exact (((((hc.setB (by show g < g + 1; omega) _).setB (by show g < g + 1; omega) _).setB (by show g < g + 1; omega) _).setB (by show g < g + 1; omega) _).setB (by show g < g + 1; omega) _)
  · obtain ⟨u, hu⟩ := h2 i y (by omega) hy
    refine ⟨u, by rw [set_keep _ _ _ _ (by omega)]; rw [set_keep _ _ _ _ (by omega)]; rw [set_keep _ _ _ _ (by omega)]; rw [set_keep _ _ _ _ (by omega)]; rw [set_keep _ _ _ _ (by omega)]; exact hu.1, by rw [set_keep _ _ _ _ (by omega)]; rw [set_keep _ _ _ _ (by omega)]; rw [set_keep _ _ _ _ (by omega)]; rw [set_keep _ _ _ _ (by omega)]; rw [set_keep _ _ _ _ (by omega)]; exact hu.2.1, by rw [set_keep _ _ _ _ (by omega)]; rw [set_keep _ _ _ _ (by omega)]; rw [set_keep _ _ _ _ (by omega)]; rw [set_keep _ _ _ _ (by omega)]; rw [set_keep _ _ _ _ (by omega)]; exact hu.2.2.1, by rw [set_keep _ _ _ _ (by omega)]; rw [set_keep _ _ _ _ (by omega)]; rw [set_keep _ _ _ _ (by omega)]; rw [set_keep _ _ _ _ (by omega)]; rw [set_keep _ _ _ _ (by omega)]; exact hu.2.2.2.1, by rw [set_keep _ _ _ _ (by omega)]; rw [set_keep _ _ _ _ (by omega)]; rw [set_keep _ _ _ _ (by omega)]; rw [set_keep _ _ _ _ (by omega)]; rw [set_keep _ _ _ _ (by omega)]; exact hu.2.2.2.2.1, ?_⟩
    exact ((((((hu.2.2.2.2.2).setB (by show g < g + 1; omega) _).setB (by show g < g + 1; omega) _).setB (by show g < g + 1; omega) _).setB (by show g < g + 1; omega) _).setB (by show g < g + 1; omega) _)
theorem LnksO.setB {g m k : Nat} {w : World} {xs : List Lnk} (h : LnksO g m w xs k) {a : Addr} (ha : a.block < g) (u : Value) : LnksO g m (w.setCell a u) xs k := by
  obtain ⟨cs, h1, h2⟩ := h
  refine ⟨cs, ownsRow_setCell_below h1 ha u, fun i x hi hx => ?_⟩
  obtain ⟨c, hc⟩ := h2 i x hi hx
  exact ⟨c, hc.1, hc.2.1, hc.2.2.1, hc.2.2.2.1, hc.2.2.2.2.1, (hc.2.2.2.2.2).setB (by omega) u⟩
theorem LnksO.done {g m : Nat} {w : World} {xs : List Lnk} (h : LnksO g m w xs m) (hm : xs.length = m) (hw : ∀ l ∈ xs, wfL l) : SlL w (.slice (some ⟨g, 0, none⟩) m m) xs := by
  obtain ⟨cs, h1, h2⟩ := h
  have hcap : m ≤ maxLen := by
    rcases h1.2 with ⟨h', _⟩ | ⟨g', cap', cur, h', _, _, _, hcm, _⟩
    · simp at h'
    · simp only [Value.slice.injEq] at h'
      omega
  have hg : g < w.heap.size := (World.ownsRow.lt h1 g rfl).2
  refine ⟨some ⟨g, 0, none⟩, m, by rw [hm], by omega, hcap, (fun e => by cases e), .inr ⟨g, 0, rfl, hg, fun i x hi => ?_⟩⟩
  have hlt : i < m := by rw [← hm]; exact (List.getElem?_eq_some_iff.1 hi).1
  obtain ⟨c, hc⟩ := h2 i x hlt hi
  simp only [Nat.zero_add]
  exact ⟨c, (h1.cellAt _ (by omega)).trans (hc.1), (h1.cellAt _ (by omega)).trans (hc.2.1), (h1.cellAt _ (by omega)).trans (hc.2.2.1), (h1.cellAt _ (by omega)).trans (hc.2.2.2.1), (h1.cellAt _ (by omega)).trans (hc.2.2.2.2.1), hw x (List.mem_of_getElem? hi), (hc.2.2.2.2.2).sl⟩

theorem rowltL {g m k : Nat} {w : World} {xs : List Lnk} (h : LnksO g m w xs k) : g < w.heap.size := by
  obtain ⟨cs, h1, _⟩ := h
  exact (World.ownsRow.lt h1 g rfl).2
set_option maxRecDepth 100000 in
set_option maxHeartbeats 1600000 in
theorem toLinkS_any (v : Value) (xs : List Lnk) (w : World) (h : SlL w v xs) (hs : xs.length ≤ 1048576) (hs2 : ∀ x ∈ xs, x.tok.length ≤ 1048576) :
    Calls Try.prog 49 #[v] w fun e w' => e = .returned (.slice (some ⟨w.heap.size, 0, none⟩) xs.length xs.length) ∧ LnksO w.heap.size xs.length w' xs xs.length ∧ RowA 5 w.heap.size w'.heap.size w' xs.length ∧ Below w.heap.size w w' := by
  have HS2 := Lib.hid hs2
  obtain ⟨a, cap, rfl, hl, hm, hn, hc⟩ := h
  clear hm hn hl hs2
  obtain ⟨m, hmm⟩ : ∃ m, m = xs.length := ⟨_, rfl⟩
  rw [← hmm] at hs ⊢
  have HM := Lib.hid hmm
  clear hmm
  obtain ⟨i0, hi, hz0, hz1, hz2⟩ := infoL_parts
  go_enter Try.func49, Try.ntmps49
  go_wp2_with (at_make; refine wpList_make_full _ rfl _ _ 29 rfl w.heap.size 68 i0 (.agg #[.int .i64 0, .int .i64 0, .int .i64 0, .int .i64 0, .slice none 0 0]) 5 Try.underlying29 hi hz0 hz1 _ _ _ _ m rfl rfl rfl rfl ?b2 ?b3 ?b4 ?_)
  case b2 => rw [hz2]; omega
  case b3 => unfold maxLen; omega
  case b4 => exact Nat.le_refl _
  intro w1 hown hgrow
  have hb := Lib.hid ((Below.refl w.heap.size w).grown hgrow (Nat.le_refl _) (by simp))
  have HO := Lib.hid (show LnksO w.heap.size m w1 xs 0 from ⟨_, hown, fun i x hi => absurd hi (by omega)⟩)
  clear hgrow hi hz0 hz1 hz2 hown
  go_wp2_with fail
  go_loopw [4] (fun i wr => ∃ k : Nat, k ≤ m ∧ i = .int .i64 k ∧ Hid (LnksO w.heap.size m wr xs k) ∧ Hid (RowA 5 w.heap.size wr.heap.size wr k) ∧ Hid (Below w.heap.size w wr)) (fun i _ => m - (intOf i).toNat)
  case atStart => exact ⟨0, Nat.zero_le _, rfl, HO, Lib.hid (RowA.start _ _ _ _), hb⟩
  case round =>
    obtain ⟨k, hk, rfl, HR, HA, HB⟩ := hrel
    by_cases hlt : k < m
    · rcases hc with rfl | ⟨b, off, rfl, hbl, hcell⟩
      · exact absurd hlt (by have := HM.out; simp at this; omega)
      · obtain ⟨x, hx⟩ : ∃ x, xs[k]? = some x := ⟨_, List.getElem?_eq_getElem (by rw [← HM.out]; exact hlt)⟩
        obtain ⟨u, e0, e1, e2, e3, e4, ee⟩ := hcell k x hx
        obtain ⟨ua, uc, e6⟩ := (ee.2).shape
        have HS := Lib.hid ((ee.2).below HB.out)
        have c0 := (HB.out.cell (p := ⟨b, off + k * 5, none⟩) hbl).trans e0
        have c1 := (HB.out.cell (p := ⟨b, off + k * 5 + 1, none⟩) hbl).trans e1
        have c2 := (HB.out.cell (p := ⟨b, off + k * 5 + 2, none⟩) hbl).trans e2
        have c3 := (HB.out.cell (p := ⟨b, off + k * 5 + 3, none⟩) hbl).trans e3
        have c4 := (HB.out.cell (p := ⟨b, off + k * 5 + 4, none⟩) hbl).trans e4
        have hbl2 : b < wr.heap.size := Nat.lt_of_lt_of_le hbl HB.out.size
        have HX := Lib.hid hx
        have hsx := HS2.out x (List.mem_of_getElem? hx)
        clear hx hcell e0 e1 e2 e3 e4 ee
        obtain ⟨xf, xo, xt, xi, pc⟩ := x
        simp only [] at c0 c1 c2 c3 c4 e6 HS hsx
        obtain ⟨ul, hul⟩ : ∃ z, z = pc.length := ⟨_, rfl⟩
        have HSX := Lib.hid hsx
        rw [← hul] at e6
        clear hul hsx
        subst e6
        go_wp2_with (go_at_call 107; refine (toLnk_any _ ⟨xf, xo, xt, xi, pc⟩ _ ⟨_, rfl, HS.out⟩ HSX.out).mono ?_; rintro e w2 ⟨v', rfl, ⟨c', rfl, ho⟩, hb1⟩; obtain ⟨ga, gc, rfl⟩ := ho.shape; have HU1 := Lib.hid ho.lt; have HSZ := Lib.hid hb1.size; have HA1 := Lib.hid (HA.out.below hb1 (rowltL HR.out)); have HO1 := Lib.hid (Own.mono (lo' := w.heap.size + 1) ho (by have h1 := HB.out.size; have h2 := rowltL HR.out; omega)); have HR1 := Lib.hid (HR.out.below hb1); have HB1 := Lib.hid (HB.out.trans (hb1.mono HB.out.size)); have Z := HR1.out.cellZ hlt; obtain ⟨z0, z1, z2, z3, z4, ⟨y0, k0⟩, ⟨y1, k1⟩, ⟨y2, k2⟩, ⟨y3, k3⟩, ⟨y4, k4⟩⟩ := Z; clear ho hb1)
        go_roundw
        case rel =>
          have q1 := HR1.out.step (x := ⟨xf, xo, xt, xi, pc⟩) hlt HX.out HO1.out
          have q2 := (((((HB1.out.setCell (p := ⟨w.heap.size, k * 5, none⟩) (Nat.le_refl _) (.int .i64 xf)).setCell (p := ⟨w.heap.size, k * 5 + 1, none⟩) (Nat.le_refl _) (.int .i64 xo)).setCell (p := ⟨w.heap.size, k * 5 + 2, none⟩) (Nat.le_refl _) (.int .i64 xt)).setCell (p := ⟨w.heap.size, k * 5 + 3, none⟩) (Nat.le_refl _) (.int .i64 xi)).setCell (p := ⟨w.heap.size, k * 5 + 4, none⟩) (Nat.le_refl _) (.slice ga pc.length gc))
          have q3 := HA1.out.step5 (a := (.int .i64 xf)) (b := (.int .i64 xo)) (c := (.int .i64 xt)) (d := (.int .i64 xi)) (x := (.slice ga pc.length gc)) ⟨_, k4⟩ HU1.out HSZ.out
          exact ⟨k + 1, by omega, by go_num, Lib.hid q1, Lib.hid q3, Lib.hid q2⟩
        case measure => simp [intOf]; omega
    · go_wp2_with fail
      go_ret
      have := HR.out
      have hA := HA.out
      rw [show k = m by omega] at this hA
      exact ⟨rfl, this, hA, HB.out⟩

def szN (n : Net) : Nat := n.progs.length + (n.progs.map fun p => p.code.length).sum + (n.links.length + (n.links.map fun l => l.tok.length).sum)
theorem le_sum {α : Type} {f : α → Nat} : ∀ {xs : List α} {x : α}, x ∈ xs → f x ≤ (xs.map f).sum
  | [], x, h => by simp at h
  | y :: ys, x, h => by
    rw [List.map_cons, List.sum_cons]
    rcases List.mem_cons.1 h with rfl | h
    · omega
    · have := le_sum (f := f) h; omega

/-- A network of the call's own: the rows of its programs and of its links, and what they hold, lie from the block lo on. -/
def NetO (lo hi : Nat) (w : World) (v : Value) (n : Net) : Prop := ∃ g h, v = .agg #[.slice (some ⟨g, 0, none⟩) n.progs.length n.progs.length, .slice (some ⟨h, 0, none⟩) n.links.length n.links.length] ∧ (lo ≤ g ∧ g < hi) ∧ (lo ≤ h ∧ h < hi) ∧ PrgsO g n.progs.length w n.progs n.progs.length ∧ LnksO h n.links.length w n.links n.links.length ∧ RowA 3 g hi w n.progs.length ∧ RowA 5 h hi w n.links.length
theorem NetO.v {lo hi : Nat} {w : World} {v : Value} {n : Net} (h : NetO lo hi w v n) (hw : ∀ l ∈ n.links, wfL l) : NetV w v n := by
  obtain ⟨g, k, rfl, _, _, hp, hl, _⟩ := h
  exact ⟨_, _, rfl, hp.done rfl, hl.done rfl hw⟩
theorem NetO.below {lo hi : Nat} {w w' : World} {v : Value} {n : Net} (h : NetO lo hi w v n) (hb : Below w.heap.size w w') : NetO lo hi w' v n := by
  obtain ⟨g, k, h1, h2, h3, hp, hl, ap, al⟩ := h
  exact ⟨g, k, h1, h2, h3, hp.below hb, hl.below hb, ap.below hb (rowltP hp), al.below hb (rowltL hl)⟩
theorem RowA.setB {n g hi k : Nat} {w : World} (h : RowA n g hi w k) {a : Addr} (ha : a.block < g) (u : Value) : RowA n g hi (w.setCell a u) k := h.same fun _ _ => World.cell?_setCell_other _ _ _ _ (fun e => by rw [e] at ha; simp at ha)
theorem set0_blkN {w : World} {g T : Nat} {u0 u1 : Value} (h : w.heap[g]? = some (.cells #[u0, u1] T)) (v : Value) : (w.setCell ⟨g, 0, none⟩ v).heap[g]? = some (.cells #[v, u1] T) := by
  rw [heap_setCell_same w g 0 #[u0, u1] T v h]; rfl
theorem setR_blkN {w : World} {g r j : Nat} {o : Obj} (h : w.heap[g]? = some o) (hne : g ≠ r) (v : Value) : (w.setCell ⟨r, j, none⟩ v).heap[g]? = some o := by
  rw [Below.heap_setCell _ _ _ _ hne]; exact h

set_option maxRecDepth 100000 in
set_option maxHeartbeats 1600000 in
theorem toNet_any (v : Value) (n : Net) (w : World) (h : NetV w v n) (hs : szN n ≤ 1048576) :
    Calls Try.prog 14 #[v] w fun e w' => ∃ v', e = .returned v' ∧ NetO w.heap.size w'.heap.size w' v' n ∧ Below w.heap.size w w' := by
  obtain ⟨c, d, rfl, hp, hl⟩ := h
  obtain ⟨ps, ls⟩ := n
  unfold szN at hs
  simp only [] at hp hl hs ⊢
  have S1 := Lib.hid (show ps.length ≤ 1048576 by omega)
  have S2 := Lib.hid (show ls.length ≤ 1048576 by omega)
  have S3 := Lib.hid (show ∀ x ∈ ps, x.code.length ≤ 1048576 from fun x hx => by have := le_sum (f := fun p : Prg => p.code.length) hx; omega)
  have S4 := Lib.hid (show ∀ x ∈ ls, x.tok.length ≤ 1048576 from fun x hx => by have := le_sum (f := fun p : Lnk => p.tok.length) hx; omega)
  have HP := Lib.hid hp
  have HL := Lib.hid hl
  obtain ⟨pa, pcap, rfl⟩ := hp.shape
  obtain ⟨la, lcap, rfl⟩ := hl.shape
  have CP := Lib.hid (fun W (hw : Below w.heap.size w W) => toProgramS_any _ ps W (HP.out.below hw) S1.out S3.out)
  have CL := Lib.hid (fun W (hw : Below w.heap.size w W) => toLinkS_any _ ls W (HL.out.below hw) S2.out S4.out)
  obtain ⟨m, hm⟩ : ∃ m, m = ps.length := ⟨_, rfl⟩
  obtain ⟨n, hn⟩ : ∃ n, n = ls.length := ⟨_, rfl⟩
  rw [← hm] at CP ⊢
  rw [← hn] at CL ⊢
  have HM := Lib.hid hm
  have HN := Lib.hid hn
  clear hp hl hs hm hn HP HL
  have hb := Lib.hid ((((Below.refl w.heap.size w).al (.cells #[.slice pa m pcap, .slice la n lcap] 25)).al (.cells #[.slice none 0 0, .slice none 0 0] 31)).al (.cells #[.slice none 0 0, .slice none 0 0] 31))
  have hH3 := Lib.hid (hp3 w (.cells #[.slice pa m pcap, .slice la n lcap] 25) (.cells #[.slice none 0 0, .slice none 0 0] 31) (.cells #[.slice none 0 0, .slice none 0 0] 31))
  have hH2 := Lib.hid (hp32 w (.cells #[.slice pa m pcap, .slice la n lcap] 25) (.cells #[.slice none 0 0, .slice none 0 0] 31) (.cells #[.slice none 0 0, .slice none 0 0] 31))
  have hH1 := Lib.hid (hp31 w (.cells #[.slice pa m pcap, .slice la n lcap] 25) (.cells #[.slice none 0 0, .slice none 0 0] 31) (.cells #[.slice none 0 0, .slice none 0 0] 31))
  go_enter Try.func14, Try.ntmps14
  go_wp2_with (go_at_call 48; with_reducible refine (CP.out _ hb.out).mono ?_; rintro e w2 ⟨rfl, ho, ra, hb1⟩; rw [show ((((w.alloc (.cells #[.slice pa m pcap, .slice la n lcap] 25)).alloc (.cells #[.slice none 0 0, .slice none 0 0] 31)).alloc (.cells #[.slice none 0 0, .slice none 0 0] 31))).heap.size = w.heap.size + 3 by simp] at ho ra ⊢; have HO2 := Lib.hid ho; have RA2 := Lib.hid ra; clear ra; have HB2 := Lib.hid (hb.out.trans (hb1.mono (by simp; omega))); have HS2 := Lib.hid (show w.heap.size + 3 ≤ w2.heap.size by have := hb1.size; simp at this; omega); have B1 := blk_in hH1.out hb1; have B2 := blk_in hH2.out hb1; have B3 := blk_in hH3.out hb1; obtain ⟨a0, a1⟩ := cells2 B1; have al := lt_of B1; obtain ⟨r0, r1⟩ := cells2 B2; have rl := lt_of B2; obtain ⟨o0, o1⟩ := cells2 B3; have ol := lt_of B3; have oz0 := fr_of B3 0; have oz1 := fr_of B3 1; have rz0 := fr_of B2 0; have rz1 := fr_of B2 1; have G1 := Lib.hid B1; have G2 := Lib.hid B2; have G3 := Lib.hid B3; clear ho hb1 B1 B2 B3)
  go_at_call 49
  refine (CL.out _ (HB2.out.setCell (p := ⟨w.heap.size + 1 + 1, 0, none⟩) (by show w.heap.size ≤ w.heap.size + 1 + 1; omega) _)).mono ?_
  rintro e w4 ⟨rfl, hq, rl, hb4⟩
  have hsz : (w2.setCell ⟨w.heap.size + 1 + 1, 0, none⟩ (.slice (some ⟨w.heap.size + 3, 0, none⟩) m m)).heap.size = w2.heap.size := by simp [World.setCell]
  rw [hsz] at hq rl ⊢
  have HQ4 := Lib.hid hq
  have RL4 := Lib.hid rl
  have HS4 := Lib.hid (show w2.heap.size ≤ w4.heap.size by have := hb4.size; rw [hsz] at this; exact this)
  have RA4 := Lib.hid (((RA2.out.setB (a := ⟨w.heap.size + 1 + 1, 0, none⟩) (by show w.heap.size + 1 + 1 < w.heap.size + 3; omega) (.slice (some ⟨w.heap.size + 3, 0, none⟩) m m)).below hb4 (by rw [hsz]; exact rowltP HO2.out)).more HS4.out)
  clear rl
  have HB4 := Lib.hid ((HB2.out.setCell (p := ⟨w.heap.size + 1 + 1, 0, none⟩) (by show w.heap.size ≤ w.heap.size + 1 + 1; omega) (.slice (some ⟨w.heap.size + 3, 0, none⟩) m m)).trans (hb4.mono (by rw [hsz]; exact HB2.out.size)))
  have HO4 := Lib.hid ((HO2.out.setB (a := ⟨w.heap.size + 1 + 1, 0, none⟩) (by show w.heap.size + 1 + 1 < w.heap.size + 3; omega) (.slice (some ⟨w.heap.size + 3, 0, none⟩) m m)).below hb4)
  have B1 := blk_in (setR_blkN G1.out (by omega) _) hb4
  have B2 := blk_in (setR_blkN G2.out (by omega) _) hb4
  have B3 := blk_in (set0_blkN G3.out _) hb4
  clear a0 a1 al r0 r1 rl o0 o1 ol oz0 oz1 rz0 rz1
  obtain ⟨a0, a1⟩ := cells2 B1
  have al := lt_of B1
  obtain ⟨r0, r1⟩ := cells2 B2
  have rl := lt_of B2
  obtain ⟨o0, o1⟩ := cells2 B3
  have ol := lt_of B3
  have oz0 := fr_of B3 0
  have oz1 := fr_of B3 1
  have rz0 := fr_of B2 0
  have rz1 := fr_of B2 1
  clear hq hb4 B1 B2 B3 hsz
  go_wp2_with fail
  obtain rfl := HM.out
  obtain rfl := HN.out
  refine bodyPost_ret (v := .agg #[.slice (some ⟨w.heap.size + 3, 0, none⟩) ps.length ps.length, .slice (some ⟨w2.heap.size, 0, none⟩) ls.length ls.length]) (by simp [results, Try.results14, go_sem, r0, r1]) rfl ⟨_, rfl, ⟨w.heap.size + 3, w2.heap.size, rfl, ⟨by omega, by have := HS4.out; have := rowltP HO2.out; simp; omega⟩, ⟨by have := HB2.out.size; omega, by have := rowltL HQ4.out; simp; omega⟩, ?_, ?_, ?_, ?_⟩, ?_⟩
  · exact ((HO4.out.setB (by show w.heap.size + 1 + 1 < _; omega) _).setB (by show w.heap.size + 1 < _; omega) _).setB (by show w.heap.size + 1 < _; omega) _
  · exact ((HQ4.out.setB (by show w.heap.size + 1 + 1 < _; have := HS2.out; omega) _).setB (by show w.heap.size + 1 < _; have := HS2.out; omega) _).setB (by show w.heap.size + 1 < _; have := HS2.out; omega) _
  · rw [World.size_setCell, World.size_setCell, World.size_setCell]
    exact (((RA4.out.setB (by show w.heap.size + 1 + 1 < _; omega) _).setB (by show w.heap.size + 1 < _; omega) _).setB (by show w.heap.size + 1 < _; omega) _)
  · rw [World.size_setCell, World.size_setCell, World.size_setCell]
    exact (((RL4.out.setB (by show w.heap.size + 1 + 1 < _; have := HS2.out; omega) _).setB (by show w.heap.size + 1 < _; have := HS2.out; omega) _).setB (by show w.heap.size + 1 < _; have := HS2.out; omega) _)
  · exact ((HB4.out.setCell (by show w.heap.size ≤ w.heap.size + 1 + 1; omega) _).setCell (by show w.heap.size ≤ w.heap.size + 1; omega) _).setCell (by show w.heap.size ≤ w.heap.size + 1; omega) _

set_option maxHeartbeats 1600000 in
theorem szLnk_any (v : Value) (p : Lnk) (left : Int) (w : World) (h : LnkV w v p) (hl : 0 ≤ left ∧ left ≤ 1048576) :
    Calls Try.prog 100 #[v, .int .i64 left] w fun e w' => e = .returned (.int .i64 (if (p.tok.length : Int) ≤ left then left - p.tok.length else -1)) ∧ Below w.heap.size w w' := by
  obtain ⟨c, rfl, hc⟩ := h
  obtain ⟨f, o, t, i, tok⟩ := p
  simp only [] at hc ⊢
  have HC := Lib.hid hc
  obtain ⟨a, cap, rfl, hrest⟩ := hc
  clear hrest
  have HL := Lib.hid hl
  have hb := Lib.hid ((Below.refl w.heap.size w).al (.cells #[.int .i64 f, .int .i64 o, .int .i64 t, .int .i64 i, .slice a tok.length cap] 124))
  have C := Lib.hid (szIntS_any _ tok left _ (HC.out.below (hb.out.mono (by simp))) HL.out)
  clear hl
  by_cases hc : (tok.length : Int) ≤ left
  · rw [if_pos hc] at C ⊢
    have d : decide (left - (tok.length : Int) < 0) = false := decide_eq_false (by omega)
    go_enter Try.func100, Try.ntmps100
    go_wp2_with (go_at_call 150; refine C.out.mono ?_; rintro e w2 ⟨rfl, rfl⟩)
    go_ret
    exact ⟨rfl, hb.out⟩
  · rw [if_neg hc] at C ⊢
    go_enter Try.func100, Try.ntmps100
    go_wp2_with (go_at_call 150; refine C.out.mono ?_; rintro e w2 ⟨rfl, rfl⟩)
    go_ret
    exact ⟨rfl, hb.out⟩
theorem sum_step {α : Type} {f : α → Nat} {xs : List α} {k : Nat} {x : α} (hx : xs[k]? = some x) : ((xs.take (k + 1)).map f).sum = ((xs.take k).map f).sum + f x := by
  have hk := (List.getElem?_eq_some_iff.1 hx).1
  rw [List.take_succ_eq_append_getElem hk, (List.getElem?_eq_some_iff.1 hx).2]
  simp
theorem sum_take {α : Type} {f : α → Nat} (xs : List α) (k : Nat) : ((xs.take k).map f).sum ≤ (xs.map f).sum := by
  have h := congrArg List.sum (congrArg (List.map f) (List.take_append_drop k xs))
  rw [List.map_append, List.sum_append] at h
  omega

def sumP (xs : List Prg) : Nat := xs.length + (xs.map fun p => p.code.length).sum
set_option maxRecDepth 100000 in
set_option maxHeartbeats 1600000 in
theorem szProgramS_any (v : Value) (xs : List Prg) (left : Int) (w : World) (h : SlP w v xs) (hl : 0 ≤ left ∧ left ≤ 1048576) :
    Calls Try.prog 43 #[v, .int .i64 left] w fun e w' => e = .returned (.int .i64 (if ((sumP xs : Nat) : Int) ≤ left then left - ((sumP xs : Nat) : Int) else -1)) ∧ Below w.heap.size w w' := by
  obtain ⟨a, cap, rfl, _, hm, _, hc⟩ := h
  have hm' : xs.length ≤ 9223372036854775807 := by unfold maxLen at hm; omega
  have wi : wrap64 (left - xs.length) = left - xs.length := IntWalk.wrap64_in _ (by unfold maxLen at hm; omega)
  clear hm
  obtain ⟨m, hmm⟩ : ∃ m, m = xs.length := ⟨_, rfl⟩
  obtain ⟨r, hr⟩ : ∃ r, r = (if ((sumP xs : Nat) : Int) ≤ left then left - ((sumP xs : Nat) : Int) else -1) := ⟨_, rfl⟩
  rw [← hr]
  rw [← hmm] at hm' wi ⊢
  have HM := Lib.hid hmm
  have HR := Lib.hid hr
  clear hmm hr
  obtain ⟨l1, hl1⟩ : ∃ l1 : Int, l1 = left - m := ⟨_, rfl⟩
  rw [← hl1] at wi
  have HL1 := Lib.hid hl1
  by_cases h0 : left - (m : Int) < 0
  · have d : decide (l1 < 0) = true := decide_eq_true (by omega)
    have hE : r = -1 := by rw [HR.out, if_neg (by unfold sumP; have := HM.out; omega)]
    subst hE
    rw [hl1] at d
    clear hl1 wi
    have wi : wrap64 (left - (m : Int)) = left - (m : Int) := IntWalk.wrap64_in _ (by omega)
    go_enter Try.func43, Try.ntmps43
    go_wp2_with fail
    go_ret
    exact ⟨rfl, Below.refl _ _⟩
  · have d : decide (left - (m : Int) < 0) = false := decide_eq_false h0
    have h1 : 0 ≤ left - (m : Int) := by omega
    clear hl1 wi
    have wi : wrap64 (left - (m : Int)) = left - (m : Int) := IntWalk.wrap64_in _ (by omega)
    have H1 := Lib.hid h1
    have HLL := Lib.hid hl
    go_enter Try.func43, Try.ntmps43
    go_wp2_with fail
    go_loopw [1, 5] (fun t i wr => ∃ (k : Nat) (z : Int), k ≤ m ∧ i = .int .i64 k ∧ t = .int .i64 z ∧ (0 ≤ z ∧ z ≤ 1048576) ∧ Hid (z = left - (m : Int) - ((((xs.take k).map fun p => p.code.length).sum : Nat) : Int)) ∧ Hid (Below w.heap.size w wr)) (fun _ i _ => m - (intOf i).toNat)
    case atStart => exact ⟨0, left - (m : Int), Nat.zero_le _, rfl, rfl, by have := H1.out; have := HLL.out; omega, Lib.hid (by simp), Lib.hid (Below.refl _ _)⟩
    case round =>
      obtain ⟨k, z, hk, rfl, rfl, hz, HZ, HB⟩ := hrel
      by_cases hlt : k < m
      · rcases hc with rfl | ⟨b, off, rfl, hbl, hcell⟩
        · exact absurd hlt (by have := HM.out; simp at this; omega)
        · obtain ⟨x, hx⟩ : ∃ x, xs[k]? = some x := ⟨_, List.getElem?_eq_getElem (by rw [← HM.out]; exact hlt)⟩
          obtain ⟨u1, e0, e1, e2, ee⟩ := hcell k x hx
          obtain ⟨ua, uc, e6⟩ := (ee).shape
          have HS := Lib.hid ((ee).below HB.out)
          have c0 := (HB.out.cell (p := ⟨b, off + k * 3, none⟩) hbl).trans e0
          have c1 := (HB.out.cell (p := ⟨b, off + k * 3 + 1, none⟩) hbl).trans e1
          have c2 := (HB.out.cell (p := ⟨b, off + k * 3 + 2, none⟩) hbl).trans e2
          have hbk : b < wr.heap.size := Nat.lt_of_lt_of_le hbl HB.out.size
          have HSUM := Lib.hid (sum_step (f := fun p : Prg => p.code.length) hx)
          have HTAKE := Lib.hid (sum_take (f := fun p : Prg => p.code.length) xs (k + 1))
          clear hx hcell e0 e1 e2 ee
          obtain ⟨pi, po, pc⟩ := x
          simp only [] at c0 c1 c2 e6 HS HSUM
          obtain ⟨ul, hul⟩ : ∃ z, z = pc.length := ⟨_, rfl⟩
          rw [← hul] at e6
          have HUL := Lib.hid hul
          subst e6
          have SC := Lib.hid (szPrg_any (.agg #[.int .i64 pi, .int .i64 po, .slice ua ul uc]) ⟨pi, po, pc⟩ z wr ⟨_, rfl, HS.out⟩ hz)
          simp only [] at SC
          rw [← hul] at SC
          clear hul
          by_cases hs : (ul : Int) ≤ z
          · rw [if_pos hs] at SC
            have dz : decide (z - (ul : Int) < 0) = false := decide_eq_false (by omega)
            have HSS := Lib.hid hs
            have HZZ := Lib.hid hz
            clear hs hz
            go_wp2_with (go_at_call 99; with_reducible refine SC.out.mono ?_; rintro e w2 ⟨rfl, hb1⟩; have HB1 := Lib.hid (HB.out.trans (hb1.mono HB.out.size)); clear hb1)
            go_roundw
            case rel => exact ⟨k + 1, z - ul, by omega, by go_num, rfl, by have := HSS.out; have := HZZ.out; omega, Lib.hid (by rw [HSUM.out, HZ.out]; have := HUL.out; omega), HB1⟩
            case measure => simp [intOf]; omega
          · rw [if_neg hs] at SC
            have HSS := Lib.hid hs
            clear hs hz
            go_wp2_with (go_at_call 99; with_reducible refine SC.out.mono ?_; rintro e w2 ⟨rfl, hb1⟩; have HB1 := Lib.hid (HB.out.trans (hb1.mono HB.out.size)); clear hb1)
            go_ret
            have hE : r = -1 := by
              rw [HR.out, if_neg]
              unfold sumP
              have := HSS.out; have := HZ.out; have := HSUM.out; have := HTAKE.out; have := HUL.out; have := HM.out
              omega
            subst hE
            exact ⟨rfl, HB1.out⟩
      · have hE : r = z := by
          have hz1 := HZ.out
          rw [List.take_of_length_le (by rw [← HM.out]; omega)] at hz1
          rw [HR.out, if_pos (by unfold sumP; have := HM.out; omega)]
          unfold sumP
          have := HM.out
          omega
        subst hE
        go_wp2_with fail
        go_ret
        exact ⟨rfl, HB.out⟩

def sumL (xs : List Lnk) : Nat := xs.length + (xs.map fun p => p.tok.length).sum
set_option maxRecDepth 100000 in
set_option maxHeartbeats 1600000 in
theorem szLinkS_any (v : Value) (xs : List Lnk) (left : Int) (w : World) (h : SlL w v xs) (hl : 0 ≤ left ∧ left ≤ 1048576) :
    Calls Try.prog 44 #[v, .int .i64 left] w fun e w' => e = .returned (.int .i64 (if ((sumL xs : Nat) : Int) ≤ left then left - ((sumL xs : Nat) : Int) else -1)) ∧ Below w.heap.size w w' := by
  obtain ⟨a, cap, rfl, _, hm, _, hc⟩ := h
  have hm' : xs.length ≤ 9223372036854775807 := by unfold maxLen at hm; omega
  have wi : wrap64 (left - xs.length) = left - xs.length := IntWalk.wrap64_in _ (by unfold maxLen at hm; omega)
  clear hm
  obtain ⟨m, hmm⟩ : ∃ m, m = xs.length := ⟨_, rfl⟩
  obtain ⟨r, hr⟩ : ∃ r, r = (if ((sumL xs : Nat) : Int) ≤ left then left - ((sumL xs : Nat) : Int) else -1) := ⟨_, rfl⟩
  rw [← hr]
  rw [← hmm] at hm' wi ⊢
  have HM := Lib.hid hmm
  have HR := Lib.hid hr
  clear hmm hr
  obtain ⟨l1, hl1⟩ : ∃ l1 : Int, l1 = left - m := ⟨_, rfl⟩
  rw [← hl1] at wi
  have HL1 := Lib.hid hl1
  by_cases h0 : left - (m : Int) < 0
  · have d : decide (l1 < 0) = true := decide_eq_true (by omega)
    have hE : r = -1 := by rw [HR.out, if_neg (by unfold sumL; have := HM.out; omega)]
    subst hE
    rw [hl1] at d
    clear hl1 wi
    have wi : wrap64 (left - (m : Int)) = left - (m : Int) := IntWalk.wrap64_in _ (by omega)
    go_enter Try.func44, Try.ntmps44
    go_wp2_with fail
    go_ret
    exact ⟨rfl, Below.refl _ _⟩
  · have d : decide (left - (m : Int) < 0) = false := decide_eq_false h0
    have h1 : 0 ≤ left - (m : Int) := by omega
    clear hl1 wi
    have wi : wrap64 (left - (m : Int)) = left - (m : Int) := IntWalk.wrap64_in _ (by omega)
    have H1 := Lib.hid h1
    have HLL := Lib.hid hl
    go_enter Try.func44, Try.ntmps44
    go_wp2_with fail
    go_loopw [1, 5] (fun t i wr => ∃ (k : Nat) (z : Int), k ≤ m ∧ i = .int .i64 k ∧ t = .int .i64 z ∧ (0 ≤ z ∧ z ≤ 1048576) ∧ Hid (z = left - (m : Int) - ((((xs.take k).map fun p => p.tok.length).sum : Nat) : Int)) ∧ Hid (Below w.heap.size w wr)) (fun _ i _ => m - (intOf i).toNat)
    case atStart => exact ⟨0, left - (m : Int), Nat.zero_le _, rfl, rfl, by have := H1.out; have := HLL.out; omega, Lib.hid (by simp), Lib.hid (Below.refl _ _)⟩
    case round =>
      obtain ⟨k, z, hk, rfl, rfl, hz, HZ, HB⟩ := hrel
      by_cases hlt : k < m
      · rcases hc with rfl | ⟨b, off, rfl, hbl, hcell⟩
        · exact absurd hlt (by have := HM.out; simp at this; omega)
        · obtain ⟨x, hx⟩ : ∃ x, xs[k]? = some x := ⟨_, List.getElem?_eq_getElem (by rw [← HM.out]; exact hlt)⟩
          obtain ⟨u1, e0, e1, e2, e3, e4, ee⟩ := hcell k x hx
          obtain ⟨ua, uc, e6⟩ := (ee.2).shape
          have HS := Lib.hid ((ee.2).below HB.out)
          have c0 := (HB.out.cell (p := ⟨b, off + k * 5, none⟩) hbl).trans e0
          have c1 := (HB.out.cell (p := ⟨b, off + k * 5 + 1, none⟩) hbl).trans e1
          have c2 := (HB.out.cell (p := ⟨b, off + k * 5 + 2, none⟩) hbl).trans e2
          have c3 := (HB.out.cell (p := ⟨b, off + k * 5 + 3, none⟩) hbl).trans e3
          have c4 := (HB.out.cell (p := ⟨b, off + k * 5 + 4, none⟩) hbl).trans e4
          have hbk : b < wr.heap.size := Nat.lt_of_lt_of_le hbl HB.out.size
          have HSUM := Lib.hid (sum_step (f := fun p : Lnk => p.tok.length) hx)
          have HTAKE := Lib.hid (sum_take (f := fun p : Lnk => p.tok.length) xs (k + 1))
          clear hx hcell e0 e1 e2 e3 e4 ee
          obtain ⟨xf, xo, xt, xi, pc⟩ := x
          simp only [] at c0 c1 c2 c3 c4 e6 HS HSUM
          obtain ⟨ul, hul⟩ : ∃ z, z = pc.length := ⟨_, rfl⟩
          rw [← hul] at e6
          have HUL := Lib.hid hul
          subst e6
          have SC := Lib.hid (szLnk_any (.agg #[.int .i64 xf, .int .i64 xo, .int .i64 xt, .int .i64 xi, .slice ua ul uc]) ⟨xf, xo, xt, xi, pc⟩ z wr ⟨_, rfl, HS.out⟩ hz)
          simp only [] at SC
          rw [← hul] at SC
          clear hul
          by_cases hs : (ul : Int) ≤ z
          · rw [if_pos hs] at SC
            have dz : decide (z - (ul : Int) < 0) = false := decide_eq_false (by omega)
            have HSS := Lib.hid hs
            have HZZ := Lib.hid hz
            clear hs hz
            go_wp2_with (go_at_call 100; with_reducible refine SC.out.mono ?_; rintro e w2 ⟨rfl, hb1⟩; have HB1 := Lib.hid (HB.out.trans (hb1.mono HB.out.size)); clear hb1)
            go_roundw
            case rel => exact ⟨k + 1, z - ul, by omega, by go_num, rfl, by have := HSS.out; have := HZZ.out; omega, Lib.hid (by rw [HSUM.out, HZ.out]; have := HUL.out; omega), HB1⟩
            case measure => simp [intOf]; omega
          · rw [if_neg hs] at SC
            have HSS := Lib.hid hs
            clear hs hz
            go_wp2_with (go_at_call 100; with_reducible refine SC.out.mono ?_; rintro e w2 ⟨rfl, hb1⟩; have HB1 := Lib.hid (HB.out.trans (hb1.mono HB.out.size)); clear hb1)
            go_ret
            have hE : r = -1 := by
              rw [HR.out, if_neg]
              unfold sumL
              have := HSS.out; have := HZ.out; have := HSUM.out; have := HTAKE.out; have := HUL.out; have := HM.out
              omega
            subst hE
            exact ⟨rfl, HB1.out⟩
      · have hE : r = z := by
          have hz1 := HZ.out
          rw [List.take_of_length_le (by rw [← HM.out]; omega)] at hz1
          rw [HR.out, if_pos (by unfold sumL; have := HM.out; omega)]
          unfold sumL
          have := HM.out
          omega
        subst hE
        go_wp2_with fail
        go_ret
        exact ⟨rfl, HB.out⟩

set_option maxHeartbeats 1600000 in
theorem szNet_any (v : Value) (n : Net) (left : Int) (w : World) (h : NetV w v n) (hl : 0 ≤ left ∧ left ≤ 1048576) :
    Calls Try.prog 12 #[v, .int .i64 left] w fun e w' => e = .returned (.int .i64 (if ((szN n : Nat) : Int) ≤ left then left - ((szN n : Nat) : Int) else -1)) ∧ Below w.heap.size w w' := by
  obtain ⟨c, d, rfl, hp, hq⟩ := h
  obtain ⟨ps, ls⟩ := n
  simp only [] at hp hq
  have HP := Lib.hid hp
  have HQ := Lib.hid hq
  have HLL := Lib.hid hl
  clear hp hq
  have hs : szN ⟨ps, ls⟩ = sumP ps + sumL ls := rfl
  obtain ⟨sp, hsp⟩ : ∃ z, z = sumP ps := ⟨_, rfl⟩
  obtain ⟨sl, hsl⟩ : ∃ z, z = sumL ls := ⟨_, rfl⟩
  rw [hs, ← hsp, ← hsl]
  have hb := Lib.hid ((Below.refl w.heap.size w).al (.cells #[c, d] 25))
  have hH := Lib.hid (hp1 w (.cells #[c, d] 25))
  have CP := Lib.hid (szProgramS_any c ps left _ (HP.out.below hb.out) HLL.out)
  rw [← hsp] at CP
  clear hs hsp
  by_cases h1 : (sp : Int) ≤ left
  · rw [if_pos h1] at CP
    have CL := Lib.hid (fun W (hw : Below w.heap.size w W) => szLinkS_any d ls (left - (sp : Int)) W (HQ.out.below hw) (by have := HLL.out; omega))
    simp only [← hsl] at CL
    have d1 : decide (left - (sp : Int) < 0) = false := decide_eq_false (by omega)
    clear hsl
    by_cases h2 : (sl : Int) ≤ left - (sp : Int)
    · simp only [if_pos h2] at CL
      have d2 : decide (left - (sp : Int) - (sl : Int) < 0) = false := decide_eq_false (by omega)
      have hE : (if ((sp + sl : Nat) : Int) ≤ left then left - ((sp + sl : Nat) : Int) else -1) = left - (sp : Int) - (sl : Int) := by rw [if_pos (by omega)]; omega
      rw [hE]
      clear hE h1 h2 hl
      go_enter Try.func12, Try.ntmps12
      go_wp2_with (first | (go_at_call 43; with_reducible refine CP.out.mono ?_; rintro e w2 ⟨rfl, hb1⟩; have HB1 := Lib.hid (hb.out.trans (hb1.mono hb.out.size)); have B := blk_in hH.out hb1; obtain ⟨c0, c1⟩ := cells2 B; clear hb1 B) | (go_at_call 44; with_reducible refine (CL.out _ HB1.out).mono ?_; rintro e w3 ⟨rfl, hb3⟩; have HB3 := Lib.hid (HB1.out.trans (hb3.mono HB1.out.size)); clear hb3))
      go_ret
      exact ⟨rfl, HB3.out⟩
    · simp only [if_neg h2] at CL
      have hE : (if ((sp + sl : Nat) : Int) ≤ left then left - ((sp + sl : Nat) : Int) else -1) = -1 := by rw [if_neg (by omega)]
      rw [hE]
      clear hE h1 h2 hl
      go_enter Try.func12, Try.ntmps12
      go_wp2_with (first | (go_at_call 43; with_reducible refine CP.out.mono ?_; rintro e w2 ⟨rfl, hb1⟩; have HB1 := Lib.hid (hb.out.trans (hb1.mono hb.out.size)); have B := blk_in hH.out hb1; obtain ⟨c0, c1⟩ := cells2 B; clear hb1 B) | (go_at_call 44; with_reducible refine (CL.out _ HB1.out).mono ?_; rintro e w3 ⟨rfl, hb3⟩; have HB3 := Lib.hid (HB1.out.trans (hb3.mono HB1.out.size)); clear hb3))
      go_ret
      exact ⟨rfl, HB3.out⟩
  · rw [if_neg h1] at CP
    have hE : (if ((sp + sl : Nat) : Int) ≤ left then left - ((sp + sl : Nat) : Int) else -1) = -1 := by rw [if_neg (by omega)]
    rw [hE]
    clear hE h1 hl hsl
    go_enter Try.func12, Try.ntmps12
    go_wp2_with (go_at_call 43; with_reducible refine CP.out.mono ?_; rintro e w2 ⟨rfl, hb1⟩; have HB1 := Lib.hid (hb.out.trans (hb1.mono hb.out.size)); clear hb1)
    go_ret
    exact ⟨rfl, HB1.out⟩

set_option maxRecDepth 100000 in
set_option maxHeartbeats 1600000 in
theorem eqLnk_ok (v u : Value) (l : Lnk) (w : World) (h : LnkV w v l) (k : LnkV w u l) :
    Calls Try.prog 121 #[v, u] w fun e w' => e = .returned (.bool true) ∧ Below w.heap.size w w' := by
  obtain ⟨c, rfl, hc⟩ := h
  obtain ⟨d, rfl, hd⟩ := k
  obtain ⟨f, o, t, i, tok⟩ := l
  simp only [] at hc hd ⊢
  obtain ⟨n, hn⟩ : ∃ n, n = tok.length := ⟨_, rfl⟩
  have HC := Lib.hid hc
  have HD := Lib.hid hd
  obtain ⟨a, cap, rfl, hrest⟩ := hc
  obtain ⟨a2, cap2, rfl, hrest2⟩ := hd
  clear hrest hrest2
  rw [← hn] at HC HD ⊢
  clear hn
  have hb := Lib.hid (((Below.refl w.heap.size w).al (.cells #[.int .i64 f, .int .i64 o, .int .i64 t, .int .i64 i, .slice a n cap] 68)).al (.cells #[.int .i64 f, .int .i64 o, .int .i64 t, .int .i64 i, .slice a2 n cap2] 68))
  go_enter Try.func121, Try.ntmps121
  go_wp2_with (go_at_call 18; refine (eqS_ok _ _ tok _ (HC.out.below (hb.out.mono (by simp))) (HD.out.below (hb.out.mono (by simp)))).mono ?_; rintro e w2 ⟨rfl, hb1⟩)
  go_ret
  exact ⟨rfl, hb.out.trans (hb1.mono (by simp; omega))⟩

set_option maxRecDepth 100000 in
set_option maxHeartbeats 1600000 in
theorem eqProgramS_ok (v u : Value) (xs : List Prg) (w : World) (h : SlP w v xs) (k : SlP w u xs) :
    Calls Try.prog 54 #[v, u] w fun e w' => e = .returned (.bool true) ∧ Below w.heap.size w w' := by
  obtain ⟨a, cap, rfl, hl, hm, hn, hc⟩ := h
  obtain ⟨a2, cap2, rfl, hl2, hm2, hn2, hc2⟩ := k
  have hm' : xs.length ≤ 9223372036854775807 := by unfold maxLen at hm; omega
  clear hm hn hm2 hn2 hl hl2
  obtain ⟨m, hmm⟩ : ∃ m, m = xs.length := ⟨_, rfl⟩
  rw [← hmm] at hm' ⊢
  have HM := Lib.hid hmm
  clear hmm
  go_enter Try.func54, Try.ntmps54
  go_wp2_with fail
  go_loopw [5] (fun i wr => ∃ k : Nat, k ≤ m ∧ i = .int .i64 k ∧ Hid (Below w.heap.size w wr)) (fun i _ => m - (intOf i).toNat)
  case atStart => exact ⟨0, Nat.zero_le _, rfl, Lib.hid (Below.refl _ _)⟩
  case round =>
    obtain ⟨k, hk, rfl, HB⟩ := hrel
    by_cases hlt : k < m
    · rcases hc with rfl | ⟨b, off, rfl, hbl, hcell⟩
      · exact absurd hlt (by have := HM.out; simp at this; omega)
      · rcases hc2 with rfl | ⟨b2, off2, rfl, hbl2, hcell2⟩
        · exact absurd hlt (by have := HM.out; simp at this; omega)
        · obtain ⟨x, hx⟩ : ∃ x, xs[k]? = some x := ⟨_, List.getElem?_eq_getElem (by rw [← HM.out]; exact hlt)⟩
          obtain ⟨u1, e0, e1, e2, ee⟩ := hcell k x hx
          obtain ⟨u2, f0, f1, f2, ff⟩ := hcell2 k x hx
          obtain ⟨ua, uc, e6⟩ := (ee).shape
          obtain ⟨ub, ud, f6⟩ := (ff).shape
          have HS := Lib.hid ((ee).below HB.out)
          have HT := Lib.hid ((ff).below HB.out)
          have c0 := (HB.out.cell (p := ⟨b, off + k * 3, none⟩) hbl).trans e0
          have c1 := (HB.out.cell (p := ⟨b, off + k * 3 + 1, none⟩) hbl).trans e1
          have c2 := (HB.out.cell (p := ⟨b, off + k * 3 + 2, none⟩) hbl).trans e2
          have d0 := (HB.out.cell (p := ⟨b2, off2 + k * 3, none⟩) hbl2).trans f0
          have d1 := (HB.out.cell (p := ⟨b2, off2 + k * 3 + 1, none⟩) hbl2).trans f1
          have d2 := (HB.out.cell (p := ⟨b2, off2 + k * 3 + 2, none⟩) hbl2).trans f2
          have hbk : b < wr.heap.size := Nat.lt_of_lt_of_le hbl HB.out.size
          have hbk2 : b2 < wr.heap.size := Nat.lt_of_lt_of_le hbl2 HB.out.size
          clear hx hcell hcell2 e0 e1 e2 f0 f1 f2 ee ff
          obtain ⟨pi, po, pc⟩ := x
          simp only [] at c0 c1 c2 d0 d1 d2 e6 f6 HS HT
          obtain ⟨ul, hul⟩ : ∃ z, z = pc.length := ⟨_, rfl⟩
          rw [← hul] at e6 f6
          clear hul
          subst e6
          subst f6
          have EC := Lib.hid (fun W (hw : Below wr.heap.size wr W) => eqPrg_ok (.agg #[.int .i64 pi, .int .i64 po, .slice ua ul uc]) (.agg #[.int .i64 pi, .int .i64 po, .slice ub ul ud]) ⟨pi, po, pc⟩ W ⟨_, rfl, HS.out.below hw⟩ ⟨_, rfl, HT.out.below hw⟩)
          go_wp2_with fail
          go_region_held3 (fun w' => w'.cell? ⟨b, off + k * 3, none⟩ = some (.int .i64 pi) ∧ w'.cell? ⟨b, off + k * 3 + 1, none⟩ = some (.int .i64 po) ∧ w'.cell? ⟨b, off + k * 3 + 2, none⟩ = some (.slice ua ul uc) ∧ w'.cell? ⟨b2, off2 + k * 3, none⟩ = some (.int .i64 pi) ∧ w'.cell? ⟨b2, off2 + k * 3 + 1, none⟩ = some (.int .i64 po) ∧ w'.cell? ⟨b2, off2 + k * 3 + 2, none⟩ = some (.slice ub ul ud)) (go_keep)
            (first | (go_at_call 120; refine (EC.out _ (by first | with_reducible exact Below.refl _ _ | with_reducible exact (Below.refl _ _).drew)).mono ?_; rintro e w2 ⟨rfl, hb1⟩; have HC1 := Lib.hid (show Below wr.heap.size wr w2 by first | with_reducible exact hb1 | with_reducible exact cr_d hb1); have c0' := (HC1.out.cell (p := ⟨b, off + k * 3, none⟩) hbk).trans c0; have c1' := (HC1.out.cell (p := ⟨b, off + k * 3 + 1, none⟩) hbk).trans c1; have c2' := (HC1.out.cell (p := ⟨b, off + k * 3 + 2, none⟩) hbk).trans c2; have d0' := (HC1.out.cell (p := ⟨b2, off2 + k * 3, none⟩) hbk2).trans d0; have d1' := (HC1.out.cell (p := ⟨b2, off2 + k * 3 + 1, none⟩) hbk2).trans d1; have d2' := (HC1.out.cell (p := ⟨b2, off2 + k * 3 + 2, none⟩) hbk2).trans d2; clear hb1))
          all_goals
            go_wp2_with fail
            go_roundw
            case rel => exact ⟨k + 1, by omega, by go_num, Lib.hid (HB.out.trans (HC1.out.mono HB.out.size))⟩
            case measure => simp [intOf]; omega
    · go_wp2_with fail
      go_ret
      exact ⟨rfl, HB.out⟩

set_option maxRecDepth 100000 in
set_option maxHeartbeats 1600000 in
theorem eqLinkS_ok (v u : Value) (xs : List Lnk) (w : World) (h : SlL w v xs) (k : SlL w u xs) :
    Calls Try.prog 55 #[v, u] w fun e w' => e = .returned (.bool true) ∧ Below w.heap.size w w' := by
  obtain ⟨a, cap, rfl, hl, hm, hn, hc⟩ := h
  obtain ⟨a2, cap2, rfl, hl2, hm2, hn2, hc2⟩ := k
  have hm' : xs.length ≤ 9223372036854775807 := by unfold maxLen at hm; omega
  clear hm hn hm2 hn2 hl hl2
  obtain ⟨m, hmm⟩ : ∃ m, m = xs.length := ⟨_, rfl⟩
  rw [← hmm] at hm' ⊢
  have HM := Lib.hid hmm
  clear hmm
  go_enter Try.func55, Try.ntmps55
  go_wp2_with fail
  go_loopw [5] (fun i wr => ∃ k : Nat, k ≤ m ∧ i = .int .i64 k ∧ Hid (Below w.heap.size w wr)) (fun i _ => m - (intOf i).toNat)
  case atStart => exact ⟨0, Nat.zero_le _, rfl, Lib.hid (Below.refl _ _)⟩
  case round =>
    obtain ⟨k, hk, rfl, HB⟩ := hrel
    by_cases hlt : k < m
    · rcases hc with rfl | ⟨b, off, rfl, hbl, hcell⟩
      · exact absurd hlt (by have := HM.out; simp at this; omega)
      · rcases hc2 with rfl | ⟨b2, off2, rfl, hbl2, hcell2⟩
        · exact absurd hlt (by have := HM.out; simp at this; omega)
        · obtain ⟨x, hx⟩ : ∃ x, xs[k]? = some x := ⟨_, List.getElem?_eq_getElem (by rw [← HM.out]; exact hlt)⟩
          obtain ⟨u1, e0, e1, e2, e3, e4, ee⟩ := hcell k x hx
          obtain ⟨u2, f0, f1, f2, f3, f4, ff⟩ := hcell2 k x hx
          obtain ⟨ua, uc, e6⟩ := (ee.2).shape
          obtain ⟨ub, ud, f6⟩ := (ff.2).shape
          have HS := Lib.hid ((ee.2).below HB.out)
          have HT := Lib.hid ((ff.2).below HB.out)
          have c0 := (HB.out.cell (p := ⟨b, off + k * 5, none⟩) hbl).trans e0
          have c1 := (HB.out.cell (p := ⟨b, off + k * 5 + 1, none⟩) hbl).trans e1
          have c2 := (HB.out.cell (p := ⟨b, off + k * 5 + 2, none⟩) hbl).trans e2
          have c3 := (HB.out.cell (p := ⟨b, off + k * 5 + 3, none⟩) hbl).trans e3
          have c4 := (HB.out.cell (p := ⟨b, off + k * 5 + 4, none⟩) hbl).trans e4
          have d0 := (HB.out.cell (p := ⟨b2, off2 + k * 5, none⟩) hbl2).trans f0
          have d1 := (HB.out.cell (p := ⟨b2, off2 + k * 5 + 1, none⟩) hbl2).trans f1
          have d2 := (HB.out.cell (p := ⟨b2, off2 + k * 5 + 2, none⟩) hbl2).trans f2
          have d3 := (HB.out.cell (p := ⟨b2, off2 + k * 5 + 3, none⟩) hbl2).trans f3
          have d4 := (HB.out.cell (p := ⟨b2, off2 + k * 5 + 4, none⟩) hbl2).trans f4
          have hbk : b < wr.heap.size := Nat.lt_of_lt_of_le hbl HB.out.size
          have hbk2 : b2 < wr.heap.size := Nat.lt_of_lt_of_le hbl2 HB.out.size
          clear hx hcell hcell2 e0 e1 e2 e3 e4 f0 f1 f2 f3 f4 ee ff
          obtain ⟨xf, xo, xt, xi, pc⟩ := x
          simp only [] at c0 c1 c2 c3 c4 d0 d1 d2 d3 d4 e6 f6 HS HT
          obtain ⟨ul, hul⟩ : ∃ z, z = pc.length := ⟨_, rfl⟩
          rw [← hul] at e6 f6
          clear hul
          subst e6
          subst f6
          have EC := Lib.hid (fun W (hw : Below wr.heap.size wr W) => eqLnk_ok (.agg #[.int .i64 xf, .int .i64 xo, .int .i64 xt, .int .i64 xi, .slice ua ul uc]) (.agg #[.int .i64 xf, .int .i64 xo, .int .i64 xt, .int .i64 xi, .slice ub ul ud]) ⟨xf, xo, xt, xi, pc⟩ W ⟨_, rfl, HS.out.below hw⟩ ⟨_, rfl, HT.out.below hw⟩)
          go_wp2_with fail
          go_region_held3 (fun w' => w'.cell? ⟨b, off + k * 5, none⟩ = some (.int .i64 xf) ∧ w'.cell? ⟨b, off + k * 5 + 1, none⟩ = some (.int .i64 xo) ∧ w'.cell? ⟨b, off + k * 5 + 2, none⟩ = some (.int .i64 xt) ∧ w'.cell? ⟨b, off + k * 5 + 3, none⟩ = some (.int .i64 xi) ∧ w'.cell? ⟨b, off + k * 5 + 4, none⟩ = some (.slice ua ul uc) ∧ w'.cell? ⟨b2, off2 + k * 5, none⟩ = some (.int .i64 xf) ∧ w'.cell? ⟨b2, off2 + k * 5 + 1, none⟩ = some (.int .i64 xo) ∧ w'.cell? ⟨b2, off2 + k * 5 + 2, none⟩ = some (.int .i64 xt) ∧ w'.cell? ⟨b2, off2 + k * 5 + 3, none⟩ = some (.int .i64 xi) ∧ w'.cell? ⟨b2, off2 + k * 5 + 4, none⟩ = some (.slice ub ul ud)) (go_keep)
            (first | (go_at_call 121; refine (EC.out _ (by first | with_reducible exact Below.refl _ _ | with_reducible exact (Below.refl _ _).drew)).mono ?_; rintro e w2 ⟨rfl, hb1⟩; have HC1 := Lib.hid (show Below wr.heap.size wr w2 by first | with_reducible exact hb1 | with_reducible exact cr_d hb1); have c0' := (HC1.out.cell (p := ⟨b, off + k * 5, none⟩) hbk).trans c0; have c1' := (HC1.out.cell (p := ⟨b, off + k * 5 + 1, none⟩) hbk).trans c1; have c2' := (HC1.out.cell (p := ⟨b, off + k * 5 + 2, none⟩) hbk).trans c2; have c3' := (HC1.out.cell (p := ⟨b, off + k * 5 + 3, none⟩) hbk).trans c3; have c4' := (HC1.out.cell (p := ⟨b, off + k * 5 + 4, none⟩) hbk).trans c4; have d0' := (HC1.out.cell (p := ⟨b2, off2 + k * 5, none⟩) hbk2).trans d0; have d1' := (HC1.out.cell (p := ⟨b2, off2 + k * 5 + 1, none⟩) hbk2).trans d1; have d2' := (HC1.out.cell (p := ⟨b2, off2 + k * 5 + 2, none⟩) hbk2).trans d2; have d3' := (HC1.out.cell (p := ⟨b2, off2 + k * 5 + 3, none⟩) hbk2).trans d3; have d4' := (HC1.out.cell (p := ⟨b2, off2 + k * 5 + 4, none⟩) hbk2).trans d4; clear hb1))
          all_goals
            go_wp2_with fail
            go_roundw
            case rel => exact ⟨k + 1, by omega, by go_num, Lib.hid (HB.out.trans (HC1.out.mono HB.out.size))⟩
            case measure => simp [intOf]; omega
    · go_wp2_with fail
      go_ret
      exact ⟨rfl, HB.out⟩

set_option maxRecDepth 100000 in
set_option maxHeartbeats 1600000 in
theorem eqNet_ok (v u : Value) (n : Net) (w : World) (h : NetV w v n) (k : NetV w u n) :
    Calls Try.prog 17 #[v, u] w fun e w' => e = .returned (.bool true) ∧ Below w.heap.size w w' := by
  obtain ⟨c, d, rfl, hp, hl⟩ := h
  obtain ⟨c2, d2, rfl, hq2, hl2⟩ := k
  obtain ⟨ps, ls⟩ := n
  simp only [] at hp hl hq2 hl2
  have HP := Lib.hid hp
  have HL := Lib.hid hl
  have HP2 := Lib.hid hq2
  have HL2 := Lib.hid hl2
  clear hp hl hq2 hl2
  have hb := Lib.hid (((Below.refl w.heap.size w).al (.cells #[c, d] 31)).al (.cells #[c2, d2] 31))
  have hH := Lib.hid (hp2 w (.cells #[c, d] 31) (.cells #[c2, d2] 31))
  have hH1 := Lib.hid (hp21 w (.cells #[c, d] 31) (.cells #[c2, d2] 31))
  go_enter Try.func17, Try.ntmps17
  go_wp2_with (first | (go_at_call 54; refine (eqProgramS_ok _ _ ps _ (HP.out.below hb.out) (HP2.out.below hb.out)).mono ?_; rintro e w2 ⟨rfl, hb1⟩; have B := blk_in hH.out hb1; have B1 := blk_in hH1.out hb1; obtain ⟨c0, c1⟩ := cells2 B; obtain ⟨a0, a1⟩ := cells2 B1; have HB2 := Lib.hid (hb.out.trans (hb1.mono (by simp; omega))); clear B B1 hb1) | (go_at_call 55; refine (eqLinkS_ok _ _ ls _ (HL.out.below HB2.out) (HL2.out.below HB2.out)).mono ?_; rintro e w3 ⟨rfl, hb3⟩; have HB3 := Lib.hid (HB2.out.trans (hb3.mono HB2.out.size)); clear hb3))
  go_ret
  exact ⟨rfl, HB3.out⟩

/-- The row g of the call's own, of m rows, holds the first k of these, each laid behind it. -/
def RowsO (g m : Nat) (w : World) (xss : List (List Int)) (k : Nat) : Prop :=
  ∃ cs : List Value, w.ownsRow g 26 1 (.slice (some ⟨g, 0, none⟩) m m) m cs ∧ ∀ i xs, i < k → xss[i]? = some xs → ∃ c, cs[i]? = some c ∧ Own (g + 1) w c xs
theorem RowsO.below {g m k : Nat} {w w' : World} {xss : List (List Int)} (h : RowsO g m w xss k) (hb : Below w.heap.size w w') : RowsO g m w' xss k := by
  obtain ⟨cs, h1, h2⟩ := h
  refine ⟨cs, row_below h1 hb, fun i x hi hx => ?_⟩
  obtain ⟨c, hc⟩ := h2 i x hi hx
  exact ⟨c, hc.1, (hc.2).below hb⟩
theorem RowsO.cellZ {g m k : Nat} {w : World} {xss : List (List Int)} (h : RowsO g m w xss k) (hk : k < m) : w.frozen? ⟨g, k, none⟩ = false ∧ ∃ y, w.cell? ⟨g, k, none⟩ = some y := by
  obtain ⟨cs, h1, _⟩ := h
  have hl := h1.1
  exact ⟨h1.frozenAt _, by rw [h1.cellAt k (by omega), List.getElem?_eq_getElem (by omega)]; exact ⟨_, rfl⟩⟩
theorem RowsO.step {g m k : Nat} {w : World} {xss : List (List Int)} {xs : List Int} {c : Value} (h : RowsO g m w xss k) (hk : k < m) (hx : xss[k]? = some xs) (hc : Own (g + 1) w c xs) : RowsO g m (w.setCell ⟨g, k, none⟩ c) xss (k + 1) := by
  obtain ⟨cs, h1, h2⟩ := h
  have hl := h1.1
  have a0 := h1.stored k c
  refine ⟨_, a0.1, fun i y hi hy => ?_⟩
  by_cases e : i = k
  · subst e
    rw [hx] at hy
    obtain rfl := Option.some.inj hy
    exact ⟨c, set_hit _ _ _ (by omega), hc.setB (by show g < g + 1; omega) _⟩
  · obtain ⟨u, hu⟩ := h2 i y (by omega) hy
    exact ⟨u, by rw [set_keep _ _ _ _ (by omega)]; exact hu.1, hu.2.setB (by show g < g + 1; omega) _⟩
theorem RowsO.setB {g m k : Nat} {w : World} {xss : List (List Int)} (h : RowsO g m w xss k) {a : Addr} (ha : a.block < g) (u : Value) : RowsO g m (w.setCell a u) xss k := by
  obtain ⟨cs, h1, h2⟩ := h
  refine ⟨cs, ownsRow_setCell_below h1 ha u, fun i x hi hx => ?_⟩
  obtain ⟨c, hc⟩ := h2 i x hi hx
  exact ⟨c, hc.1, (hc.2).setB (by omega) u⟩
theorem rowltR {g m k : Nat} {w : World} {xss : List (List Int)} (h : RowsO g m w xss k) : g < w.heap.size := by
  obtain ⟨cs, h1, _⟩ := h
  exact (World.ownsRow.lt h1 g rfl).2
theorem RowsO.done {g m : Nat} {w : World} {xss : List (List Int)} (h : RowsO g m w xss m) (hm : xss.length = m) : SlR w (.slice (some ⟨g, 0, none⟩) m m) xss := by
  obtain ⟨cs, h1, h2⟩ := h
  have hcap : m ≤ maxLen := by
    rcases h1.2 with ⟨h', _⟩ | ⟨g', cap', cur, h', _, _, _, hcm, _⟩
    · simp at h'
    · simp only [Value.slice.injEq] at h'
      omega
  have hg : g < w.heap.size := (World.ownsRow.lt h1 g rfl).2
  refine ⟨some ⟨g, 0, none⟩, m, by rw [hm], by omega, hcap, (fun e => by cases e), .inr ⟨g, 0, rfl, hg, fun i x hi => ?_⟩⟩
  have hlt : i < m := by rw [← hm]; exact (List.getElem?_eq_some_iff.1 hi).1
  obtain ⟨c, hc⟩ := h2 i x hlt hi
  simp only [Nat.zero_add]
  exact ⟨c, (h1.cellAt _ (by omega)).trans (hc.1), (hc.2).sl⟩
theorem RowA.step1 {g hi k : Nat} {w : World} {c : Value} (h : RowA 1 g hi w k) (hc : ∃ y, w.cell? ⟨g, k, none⟩ = some y) (hl : ∀ q, c.ownBlock = some q → hi ≤ q ∧ q < w.heap.size) (hh : hi ≤ w.heap.size) :
    RowA 1 g (w.setCell ⟨g, k, none⟩ c).heap.size (w.setCell ⟨g, k, none⟩ c) (k + 1) := by
  rw [show (w.setCell ⟨g, k, none⟩ c).heap.size = w.heap.size by simp]
  refine h.step (fun i hi => ?_) ?_ hl hh
  · rw [cell_off _ (by omega)]
  · rw [show k * 1 + (1 - 1) = k by omega]
    exact cell_on _ hc

def mkAll {α : Type} (st : α → Nat) (mk : Int → α → α) : Int → List α → List α
  | _, [] => []
  | k, x :: xs => mk k x :: mkAll st mk (k + (st x : Int)) xs
theorem mkAll_len {α : Type} {st : α → Nat} {mk : Int → α → α} : ∀ (k : Int) (xs : List α), (mkAll st mk k xs).length = xs.length
  | _, [] => rfl
  | k, x :: xs => by rw [mkAll, List.length_cons, mkAll_len, List.length_cons]
theorem mkAll_app {α : Type} {st : α → Nat} {mk : Int → α → α} : ∀ (k : Int) (xs : List α) (x : α), mkAll st mk k (xs ++ [x]) = mkAll st mk k xs ++ [mk (k + ((xs.map st).sum : Nat)) x]
  | k, [], x => by simp [mkAll]
  | k, y :: ys, x => by
    rw [List.cons_append, mkAll, mkAll_app, mkAll, List.cons_append, List.map_cons, List.sum_cons]
    congr 3
    rw [Int.natCast_add]; congr 1; omega
theorem mk_sum_step {α : Type} {st : α → Nat} {xs : List α} {j : Nat} {x : α} (hx : xs[j]? = some x) : ((xs.take (j + 1)).map st).sum = ((xs.take j).map st).sum + st x := by
  have hk := (List.getElem?_eq_some_iff.1 hx).1
  rw [List.take_succ_eq_append_getElem hk, (List.getElem?_eq_some_iff.1 hx).2, List.map_append, List.sum_append]
  simp
theorem len_le_sum {α : Type} {st : α → Nat} (h : ∀ x, 1 ≤ st x) : ∀ xs : List α, xs.length ≤ (xs.map st).sum
  | [] => by simp
  | x :: xs => by rw [List.length_cons, List.map_cons, List.sum_cons]; have := len_le_sum h xs; have := h x; omega
theorem mk_sum_take_le {α : Type} {st : α → Nat} (xs : List α) (j : Nat) : ((xs.take j).map st).sum ≤ (xs.map st).sum := by
  conv => rhs; rw [← List.take_append_drop j xs, List.map_append, List.sum_append]
  omega
/-- The list of which the first j are marked. -/
def mkT {α : Type} (st : α → Nat) (mk : Int → α → α) (k : Int) (xs : List α) (j : Nat) : List α := mkAll st mk k (xs.take j) ++ xs.drop j
theorem mkT_len {α : Type} {st : α → Nat} {mk : Int → α → α} (k : Int) (xs : List α) (j : Nat) : (mkT st mk k xs j).length = xs.length := by
  unfold mkT
  rw [List.length_append, mkAll_len, ← List.length_append, List.take_append_drop]
theorem mkT_zero {α : Type} {st : α → Nat} {mk : Int → α → α} (k : Int) (xs : List α) : mkT st mk k xs 0 = xs := by simp [mkT, mkAll]
theorem mkT_all {α : Type} {st : α → Nat} {mk : Int → α → α} (k : Int) (xs : List α) : mkT st mk k xs xs.length = mkAll st mk k xs := by simp [mkT]
theorem mkT_at {α : Type} {st : α → Nat} {mk : Int → α → α} {k : Int} {xs : List α} {j : Nat} {x : α} (hx : xs[j]? = some x) : (mkT st mk k xs j)[j]? = some x := by
  have hj := (List.getElem?_eq_some_iff.1 hx).1
  unfold mkT
  have hl : (mkAll st mk k (xs.take j)).length = j := by rw [mkAll_len, List.length_take]; omega
  rw [List.getElem?_append_right (by omega), hl, Nat.sub_self, List.getElem?_drop, Nat.add_zero]
  exact hx
theorem mkT_step {α : Type} {st : α → Nat} {mk : Int → α → α} {k : Int} {xs : List α} {j : Nat} {x : α} (hx : xs[j]? = some x) : (mkT st mk k xs j).set j (mk (k + (((xs.take j).map st).sum : Nat)) x) = mkT st mk k xs (j + 1) := by
  have hj := (List.getElem?_eq_some_iff.1 hx).1
  have hv := (List.getElem?_eq_some_iff.1 hx).2
  unfold mkT
  have hl : (mkAll st mk k (xs.take j)).length = j := by rw [mkAll_len, List.length_take]; omega
  rw [List.set_append_right _ _ (by omega), hl, Nat.sub_self, List.drop_eq_getElem_cons hj, List.set_cons_zero, List.take_succ_eq_append_getElem hj, hv, mkAll_app, List.append_assoc]
  rfl
def mkP (k : Int) (p : Prg) : Prg := ⟨k, k + 1, marksI (k + 1 + 1) p.code.length⟩
def stP (p : Prg) : Nat := 2 + 4 * p.code.length
def mkL (k : Int) (l : Lnk) : Lnk := ⟨k, k + 1, k + 1 + 1, k + 1 + 1 + 1, marks (k + 1 + 1 + 1 + 1) l.tok.length⟩
def stL (l : Lnk) : Nat := 4 + l.tok.length
/-- The block g holds cells of the type T. -/
def Typed (w : World) (g T : Nat) : Prop := ∃ cs fr, w.heap[g]? = some (.cells cs T fr)
theorem row_typed {lo T sz n : Nat} {w : World} {v : Value} {cs : List Value} (h : w.ownsRow lo T sz v n cs) : ∀ q, v.ownBlock = some q → Typed w q T := by
  intro q e
  rcases h.2 with ⟨rfl, _⟩ | ⟨g, cap, cur, rfl, _, hg, _⟩
  · simp [Value.ownBlock] at e
  · simp [Value.ownBlock] at e
    subst e
    exact ⟨_, _, hg⟩
theorem Typed.setCell {w : World} {g T : Nat} (h : Typed w g T) (p : Addr) (v : Value) : Typed (w.setCell p v) g T := by
  obtain ⟨cs, fr, h⟩ := h
  by_cases e : g = p.block
  · subst e
    exact ⟨_, fr, by simp only [World.setCell, Array.getElem?_modify, h]; simp; rfl⟩
  · exact ⟨cs, fr, by rw [Below.heap_setCell _ _ _ _ e]; exact h⟩
theorem Typed.at {w w' : World} {g T T' : Nat} (h : Typed w g T) (h' : Typed w' g T') (e : w'.heap[g]? = w.heap[g]?) : T = T' := by
  obtain ⟨_, _, h⟩ := h
  obtain ⟨_, _, h'⟩ := h'
  rw [e, h] at h'
  simp at h'
  exact h'.2.1
theorem Out.refl (lo hi : Nat) (w : World) : Out lo hi w w := ⟨rfl, rfl, rfl, Nat.le_refl _, fun _ _ _ => rfl⟩
theorem Out.mono {lo hi lo' hi' : Nat} {w w' : World} (h : Out lo hi w w') (h1 : lo' ≤ lo) (h2 : hi ≤ hi') : Out lo' hi' w w' := ⟨h.os, h.tape, h.output, h.size, fun k hk ho => h.block k hk (by omega)⟩
theorem Out.setC {lo hi : Nat} {a w : World} (h : Out lo hi a w) {p : Addr} (h1 : lo ≤ p.block) (h2 : p.block < hi) (v : Value) : Out lo hi a (w.setCell p v) :=
  ⟨h.os, h.tape, h.output, by simpa using h.size, fun k hk ho => by rw [Below.heap_setCell _ _ _ _ (by omega)]; exact h.block k hk ho⟩
theorem Out.al {lo hi : Nat} {a w : World} (h : Out lo hi a w) (o : Obj) : Out lo hi a (w.alloc o) :=
  ⟨h.os, h.tape, h.output, by have := h.size; simp; omega, fun k hk ho => by rw [Below.heap_alloc _ _ _ (by have := h.size; omega)]; exact h.block k hk ho⟩
/-- As Out, and nothing changed but blocks of two types. -/
structure OutT (T1 T2 lo hi : Nat) (w w' : World) : Prop where
  out : Out lo hi w w'
  ty : ∀ k T, Typed w k T → T ≠ T1 → T ≠ T2 → w'.heap[k]? = w.heap[k]?
theorem OutT.refl (T1 T2 lo hi : Nat) (w : World) : OutT T1 T2 lo hi w w := ⟨Out.refl _ _ _, fun _ _ _ _ _ => rfl⟩
theorem OutT.setC {T1 T2 lo hi : Nat} {a w : World} (h : OutT T1 T2 lo hi a w) {p : Addr} (h1 : lo ≤ p.block) (h2 : p.block < hi) (ht : Typed w p.block T1) (v : Value) : OutT T1 T2 lo hi a (w.setCell p v) :=
  ⟨h.out.setC h1 h2 v, fun k T hk n1 n2 => by
    have e := h.ty k T hk n1 n2
    have hne : k ≠ p.block := fun q => n1 (hk.at (by rw [q]; exact ht) e)
    rw [Below.heap_setCell _ _ _ _ hne]; exact e⟩
theorem OutT.grown {T1 T2 lo hi : Nat} {a w w' : World} {row : Option Nat} (h : OutT T1 T2 lo hi a w) (hg : w.grownBy w' row) (hr : ∀ q, row = some q → lo ≤ q ∧ q < hi ∧ Typed w q T2) : OutT T1 T2 lo hi a w' :=
  ⟨h.out.trans (Out.of_grown hg fun q e => ⟨(hr q e).1, (hr q e).2.1⟩), fun k T hk n1 n2 => by
    have e := h.ty k T hk n1 n2
    have hk2 : k < w.heap.size := Nat.lt_of_lt_of_le (by obtain ⟨_, _, z⟩ := hk; exact lt_of z) h.out.size
    rw [hg.block k hk2 (fun q => n2 (hk.at (hr k q.symm).2.2 e))]; exact e⟩
theorem OutT.al {T1 T2 lo hi : Nat} {a w : World} (h : OutT T1 T2 lo hi a w) (o : Obj) : OutT T1 T2 lo hi a (w.alloc o) :=
  ⟨h.out.al o, fun k T hk n1 n2 => by
    have hk2 : k < w.heap.size := Nat.lt_of_lt_of_le (by obtain ⟨_, _, z⟩ := hk; exact lt_of z) h.out.size
    rw [Below.heap_alloc _ _ _ hk2]; exact h.ty k T hk n1 n2⟩
theorem row_outT {T1 T2 lo hi l T sz n : Nat} {w w' : World} {v : Value} {cs : List Value} (h : w.ownsRow l T sz v n cs) (ho : OutT T1 T2 lo hi w w') (n1 : T ≠ T1) (n2 : T ≠ T2) : w'.ownsRow l T sz v n cs := by
  have ht := row_typed h
  refine ⟨h.1, ?_⟩
  rcases h.2 with hn | ⟨g, cap, cur, rfl, hbb, hg, rest⟩
  · exact .inl hn
  · exact .inr ⟨g, cap, cur, rfl, hbb, by rw [ho.ty g T (ht g rfl) n1 n2]; exact hg, rest⟩

theorem PrgsO.look {g m j : Nat} {w : World} {xs : List Prg} {x : Prg} (h : PrgsO g m w xs m) (hj : j < m) (hx : xs[j]? = some x) :
    ∃ c, w.cell? ⟨g, j * 3, none⟩ = some (.int .i64 x.ins) ∧ w.cell? ⟨g, j * 3 + 1, none⟩ = some (.int .i64 x.outs) ∧ w.cell? ⟨g, j * 3 + 2, none⟩ = some c ∧ OwnI (g + 1) w c x.code ∧ w.frozen? ⟨g, j * 3, none⟩ = false ∧ w.frozen? ⟨g, j * 3 + 1, none⟩ = false ∧ w.frozen? ⟨g, j * 3 + 2, none⟩ = false ∧ g < w.heap.size := by
  obtain ⟨cs, h1, h2⟩ := h
  have hl := h1.1
  obtain ⟨c, hc⟩ := h2 j x hj hx
  exact ⟨c, (h1.cellAt _ (by omega)).trans (hc.1), (h1.cellAt _ (by omega)).trans (hc.2.1), (h1.cellAt _ (by omega)).trans (hc.2.2.1), hc.2.2.2, h1.frozenAt _, h1.frozenAt _, h1.frozenAt _, (World.ownsRow.lt h1 g rfl).2⟩
theorem PrgsO.outT {T1 T2 lo hi g m k : Nat} {w w' : World} {xs : List Prg} (h : PrgsO g m w xs k) (ho : OutT T1 T2 lo hi w w') (n1 : 79 ≠ T1) (n2 : 79 ≠ T2) (n3 : 156 ≠ T1) (n4 : 156 ≠ T2) : PrgsO g m w' xs k ∧ ∀ hi' k', k' ≤ m → RowA 3 g hi' w k' → RowA 3 g hi' w' k' := by
  obtain ⟨cs, h1, h2⟩ := h
  have hl := h1.1
  have R := row_outT h1 ho n1 n2
  refine ⟨⟨cs, R, fun i x hi hx => ?_⟩, fun hi' k' hk' ha => ha.same fun i hi => by rw [R.cellAt _ (by omega), h1.cellAt _ (by omega)]⟩
  obtain ⟨c, hc⟩ := h2 i x hi hx
  exact ⟨c, hc.1, hc.2.1, hc.2.2.1, row_outT (hc.2.2.2) ho n3 n4⟩
theorem PrgsO.typed {g m k : Nat} {w : World} {xs : List Prg} (h : PrgsO g m w xs k) : Typed w g 79 := by
  obtain ⟨cs, h1, h2⟩ := h
  exact row_typed h1 g rfl
theorem PrgsO.mark {g m j hi : Nat} {w w2 : World} {xs : List Prg} {x : Prg} {c : Value} {a0 a1 : Int} {ys : _} (h : PrgsO g m w xs m) (ha : RowA 3 g hi w m) (hj : j < m) (hm : xs.length = m) (hx : xs[j]? = some x) (hc : w.cell? ⟨g, j * 3 + 2, none⟩ = some c)
    (hg : ((w.setCell ⟨g, j * 3, none⟩ (.int .i64 a0)).setCell ⟨g, j * 3 + 1, none⟩ (.int .i64 a1)).grownBy w2 c.ownBlock) (ho : OwnI (g + 1) w2 c ys) : PrgsO g m w2 (xs.set j ⟨a0, a1, ys⟩) m ∧ RowA 3 g hi w2 m := by
  obtain ⟨cs, h1, h2⟩ := h
  have hl := h1.1
  have b0 := h1.stored (j * 3) (.int .i64 a0)
  have b1 := b0.1.stored (j * 3 + 1) (.int .i64 a1)
  have ap : some g ≠ c.ownBlock := fun e => by have := (OwnI.lt ho g e.symm).1; omega
  have R := World.ownsRow.kept b1.1 hg (.inr ap)
  have hcl : cs[j * 3 + 2]? = some c := (h1.cellAt _ (by omega)).symm.trans hc
  have hsame : ∀ i, i < m → w2.cell? ⟨g, i * 3 + (3 - 1), none⟩ = w.cell? ⟨g, i * 3 + (3 - 1), none⟩ := fun i hi => by
    rw [R.cellAt _ (by omega), h1.cellAt _ (by omega)]
    rw [set_keep _ _ _ _ (by omega), set_keep _ _ _ _ (by omega)]
  refine ⟨⟨_, R, fun i y hi hy => ?_⟩, ha.same hsame⟩
  by_cases e : i = j
  · subst e
    rw [List.getElem?_set_self (by omega)] at hy
    obtain rfl := Option.some.inj hy
    exact ⟨c, (by rw [set_keep _ _ _ _ (by omega)]; exact set_hit _ _ _ (by first | omega | (simp only [List.length_set]; omega))), (by exact set_hit _ _ _ (by first | omega | (simp only [List.length_set]; omega))), (by rw [set_keep _ _ _ _ (by omega), set_keep _ _ _ _ (by omega)]; exact hcl), ho⟩
  · rw [List.getElem?_set_ne (fun q => e q.symm)] at hy
    obtain ⟨u, hu⟩ := h2 i y hi hy
    refine ⟨u, (by rw [set_keep _ _ _ _ (by omega)]; rw [set_keep _ _ _ _ (by omega)]; exact hu.1), (by rw [set_keep _ _ _ _ (by omega)]; rw [set_keep _ _ _ _ (by omega)]; exact hu.2.1), (by rw [set_keep _ _ _ _ (by omega)]; rw [set_keep _ _ _ _ (by omega)]; exact hu.2.2.1), ?_⟩
    have hw1 : OwnI (g + 1) ((w.setCell ⟨g, j * 3, none⟩ (.int .i64 a0)).setCell ⟨g, j * 3 + 1, none⟩ (.int .i64 a1)) u y.code := (((hu.2.2.2).setB (by show g < g + 1; omega) _).setB (by show g < g + 1; omega) _)
    have hcu := (h1.cellAt (i * 3 + 2) (by omega)).trans hu.2.2.1
    have hap : Apart u c := by
      rcases Nat.lt_or_gt_of_ne e with q | q
      · exact ha.ap i j u c q hj hcu hc
      · exact (ha.ap j i c u q hi hc hcu).symm
    exact hw1.kept hg hap

set_option maxRecDepth 100000 in
set_option maxHeartbeats 4000000 in
theorem markProgramS_any (g m hi : Nat) (xs : List Prg) (k : Int) (w : World) (h : PrgsO g m w xs m) (ha : RowA 3 g hi w m) (hm : xs.length = m) (hk0 : 0 ≤ k) (hk : k + ((xs.map stP).sum : Nat) ≤ 1000000000) (hgi : g < hi) :
    Calls Try.prog 56 #[.slice (some ⟨g, 0, none⟩) m m, .int .i64 k] w fun e w' => e = .returned (.int .i64 (k + ((xs.map stP).sum : Nat))) ∧ PrgsO g m w' (mkAll stP mkP k xs) m ∧ RowA 3 g hi w' m ∧ OutT 79 156 g hi w w' := by
  obtain ⟨s, hs⟩ : ∃ s : Nat, s = (xs.map stP).sum := ⟨_, rfl⟩
  rw [← hs] at hk ⊢
  have HS := Lib.hid hs
  have hm9 : m ≤ 1000000000 := by have := len_le_sum (st := stP) (fun x => by unfold stP; omega) xs; omega
  have HP0 := Lib.hid (show PrgsO g m w (mkT stP mkP k xs 0) m by rw [mkT_zero]; exact h)
  have HA0 := Lib.hid ha
  have HM := Lib.hid hm
  have HGI := Lib.hid hgi
  clear hs h ha hm hgi
  go_enter Try.func56, Try.ntmps56
  go_wp2_with fail
  go_loopw [1, 5] (fun t i wr => ∃ (j : Nat) (z : Int), j ≤ m ∧ i = .int .i64 j ∧ t = .int .i64 z ∧ Hid (z = k + (((xs.take j).map stP).sum : Nat)) ∧ Hid (PrgsO g m wr (mkT stP mkP k xs j) m) ∧ Hid (RowA 3 g hi wr m) ∧ Hid (OutT 79 156 g hi w wr)) (fun _ i _ => m - (intOf i).toNat)
  case atStart => exact ⟨0, k, Nat.zero_le _, rfl, rfl, Lib.hid (by simp), HP0, HA0, Lib.hid (OutT.refl _ _ _ _ _)⟩
  case round =>
    obtain ⟨j, z, hj, rfl, rfl, HZ, HP, HA, HO⟩ := hrel
    by_cases hlt : j < m
    · obtain ⟨x, hx⟩ : ∃ x, xs[j]? = some x := ⟨_, List.getElem?_eq_getElem (by rw [HM.out]; exact hlt)⟩
      have HX := Lib.hid hx
      obtain ⟨c, e0, e1, e2, hc, hfr⟩ := HP.out.look hlt (mkT_at hx)
      have HC := Lib.hid hc
      have HCC := Lib.hid e2
      have HIL := Lib.hid hc.lt
      have hst := mk_sum_step (st := stP) hx
      have hle := mk_sum_take_le (st := stP) xs (j + 1)
      rw [hst, ← HS.out] at hle
      obtain ⟨un, hun⟩ : ∃ q, q = x.code.length := ⟨_, rfl⟩
      have hzb : 0 ≤ z ∧ z + 2 + 4 * (un : Int) ≤ 1000000000 := by have := HZ.out; have hh : stP x = 2 + 4 * x.code.length := rfl; rw [hh] at hle; omega
      obtain ⟨ua, uc, rfl⟩ := hc.shape
      obtain ⟨f0, f1, f2, hgl⟩ := hfr
      have HST := Lib.hid hst
      have HUN := Lib.hid hun
      rw [← hun] at e2 HCC HIL HC
      clear hx hc hst hle hun
      go_wp2_with (go_at_call 122; have HC2 := Lib.hid ((HC.out.setB (a := ⟨g, j * 3, none⟩) (by show g < g + 1; omega) (.int .i64 (z))).setB (a := ⟨g, j * 3 + 1, none⟩) (by show g < g + 1; omega) (.int .i64 (z + 1))); refine (markInsS_any (g + 1) (.slice ua un uc) x.code (z + 1 + 1) _ HC2.out (by omega) (by omega) (by have := HUN.out; omega)).mono ?_; rintro e w2 ⟨rfl, ho2, hg2⟩; have HQ := Lib.hid (PrgsO.mark HP.out HA.out hlt (by rw [mkT_len]; exact HM.out) (mkT_at HX.out) HCC.out hg2 ho2); have HG2 := Lib.hid hg2; rw [← HUN.out]; clear ho2 hg2)
      go_roundw
      case rel =>
        have q1 := HQ.out.1
        have hzz := HZ.out
        have hst := HST.out
        have hun := HUN.out
        have hh : stP x = 2 + 4 * x.code.length := rfl
        refine ⟨j + 1, z + 1 + 1 + 4 * (un : Int), by omega, by go_num, rfl, Lib.hid (by rw [hst, hh]; omega), Lib.hid ?_, Lib.hid HQ.out.2, Lib.hid ?_⟩
        · have e := mkT_step (st := stP) (mk := mkP) (k := k) HX.out
          rw [← hzz] at e
          rw [← e]
          unfold mkP
          exact q1
        · exact (((HO.out.setC (p := ⟨g, j * 3, none⟩) (Nat.le_refl _) HGI.out HP.out.typed (.int .i64 (z))).setC (p := ⟨g, j * 3 + 1, none⟩) (Nat.le_refl _) HGI.out (HP.out.typed.setCell _ _) (.int .i64 (z + 1)))).grown HG2.out (fun q e => ⟨by have := (HIL.out q e).1; omega, HA.out.lt j _ hlt HCC.out q e, row_typed HC2.out q e⟩)
      case measure => simp [intOf]; omega
    · obtain rfl : j = m := by omega
      have hz := HZ.out
      have hp := HP.out
      rw [← HM.out] at hz hp
      rw [List.take_length, ← HS.out] at hz
      rw [mkT_all] at hp
      rw [HM.out] at hp
      subst hz
      go_wp2_with fail
      go_ret
      exact ⟨rfl, hp, HA.out, HO.out⟩

theorem LnksO.look {g m j : Nat} {w : World} {xs : List Lnk} {x : Lnk} (h : LnksO g m w xs m) (hj : j < m) (hx : xs[j]? = some x) :
    ∃ c, w.cell? ⟨g, j * 5, none⟩ = some (.int .i64 x.frm) ∧ w.cell? ⟨g, j * 5 + 1, none⟩ = some (.int .i64 x.out) ∧ w.cell? ⟨g, j * 5 + 2, none⟩ = some (.int .i64 x.to) ∧ w.cell? ⟨g, j * 5 + 3, none⟩ = some (.int .i64 x.inn) ∧ w.cell? ⟨g, j * 5 + 4, none⟩ = some c ∧ Own (g + 1) w c x.tok ∧ w.frozen? ⟨g, j * 5, none⟩ = false ∧ w.frozen? ⟨g, j * 5 + 1, none⟩ = false ∧ w.frozen? ⟨g, j * 5 + 2, none⟩ = false ∧ w.frozen? ⟨g, j * 5 + 3, none⟩ = false ∧ w.frozen? ⟨g, j * 5 + 4, none⟩ = false ∧ g < w.heap.size := by
  obtain ⟨cs, h1, h2⟩ := h
  have hl := h1.1
  obtain ⟨c, hc⟩ := h2 j x hj hx
  exact ⟨c, (h1.cellAt _ (by omega)).trans (hc.1), (h1.cellAt _ (by omega)).trans (hc.2.1), (h1.cellAt _ (by omega)).trans (hc.2.2.1), (h1.cellAt _ (by omega)).trans (hc.2.2.2.1), (h1.cellAt _ (by omega)).trans (hc.2.2.2.2.1), hc.2.2.2.2.2, h1.frozenAt _, h1.frozenAt _, h1.frozenAt _, h1.frozenAt _, h1.frozenAt _, (World.ownsRow.lt h1 g rfl).2⟩
theorem LnksO.outT {T1 T2 lo hi g m k : Nat} {w w' : World} {xs : List Lnk} (h : LnksO g m w xs k) (ho : OutT T1 T2 lo hi w w') (n1 : 68 ≠ T1) (n2 : 68 ≠ T2) (n3 : 3 ≠ T1) (n4 : 3 ≠ T2) : LnksO g m w' xs k ∧ ∀ hi' k', k' ≤ m → RowA 5 g hi' w k' → RowA 5 g hi' w' k' := by
  obtain ⟨cs, h1, h2⟩ := h
  have hl := h1.1
  have R := row_outT h1 ho n1 n2
  refine ⟨⟨cs, R, fun i x hi hx => ?_⟩, fun hi' k' hk' ha => ha.same fun i hi => by rw [R.cellAt _ (by omega), h1.cellAt _ (by omega)]⟩
  obtain ⟨c, hc⟩ := h2 i x hi hx
  exact ⟨c, hc.1, hc.2.1, hc.2.2.1, hc.2.2.2.1, hc.2.2.2.2.1, row_outT (hc.2.2.2.2.2) ho n3 n4⟩
theorem LnksO.typed {g m k : Nat} {w : World} {xs : List Lnk} (h : LnksO g m w xs k) : Typed w g 68 := by
  obtain ⟨cs, h1, h2⟩ := h
  exact row_typed h1 g rfl
theorem LnksO.mark {g m j hi : Nat} {w w2 : World} {xs : List Lnk} {x : Lnk} {c : Value} {a0 a1 a2 a3 : Int} {ys : _} (h : LnksO g m w xs m) (ha : RowA 5 g hi w m) (hj : j < m) (hm : xs.length = m) (hx : xs[j]? = some x) (hc : w.cell? ⟨g, j * 5 + 4, none⟩ = some c)
    (hg : ((((w.setCell ⟨g, j * 5, none⟩ (.int .i64 a0)).setCell ⟨g, j * 5 + 1, none⟩ (.int .i64 a1)).setCell ⟨g, j * 5 + 2, none⟩ (.int .i64 a2)).setCell ⟨g, j * 5 + 3, none⟩ (.int .i64 a3)).grownBy w2 c.ownBlock) (ho : Own (g + 1) w2 c ys) : LnksO g m w2 (xs.set j ⟨a0, a1, a2, a3, ys⟩) m ∧ RowA 5 g hi w2 m := by
  obtain ⟨cs, h1, h2⟩ := h
  have hl := h1.1
  have b0 := h1.stored (j * 5) (.int .i64 a0)
  have b1 := b0.1.stored (j * 5 + 1) (.int .i64 a1)
  have b2 := b1.1.stored (j * 5 + 2) (.int .i64 a2)
  have b3 := b2.1.stored (j * 5 + 3) (.int .i64 a3)
  have ap : some g ≠ c.ownBlock := fun e => by have := (Own.lt ho g e.symm).1; omega
  have R := World.ownsRow.kept b3.1 hg (.inr ap)
  have hcl : cs[j * 5 + 4]? = some c := (h1.cellAt _ (by omega)).symm.trans hc
  have hsame : ∀ i, i < m → w2.cell? ⟨g, i * 5 + (5 - 1), none⟩ = w.cell? ⟨g, i * 5 + (5 - 1), none⟩ := fun i hi => by
    rw [R.cellAt _ (by omega), h1.cellAt _ (by omega)]
    rw [set_keep _ _ _ _ (by omega), set_keep _ _ _ _ (by omega), set_keep _ _ _ _ (by omega), set_keep _ _ _ _ (by omega)]
  refine ⟨⟨_, R, fun i y hi hy => ?_⟩, ha.same hsame⟩
  by_cases e : i = j
  · subst e
    rw [List.getElem?_set_self (by omega)] at hy
    obtain rfl := Option.some.inj hy
    exact ⟨c, (by rw [set_keep _ _ _ _ (by omega)]; rw [set_keep _ _ _ _ (by omega)]; rw [set_keep _ _ _ _ (by omega)]; exact set_hit _ _ _ (by first | omega | (simp only [List.length_set]; omega))), (by rw [set_keep _ _ _ _ (by omega)]; rw [set_keep _ _ _ _ (by omega)]; exact set_hit _ _ _ (by first | omega | (simp only [List.length_set]; omega))), (by rw [set_keep _ _ _ _ (by omega)]; exact set_hit _ _ _ (by first | omega | (simp only [List.length_set]; omega))), (by exact set_hit _ _ _ (by first | omega | (simp only [List.length_set]; omega))), (by rw [set_keep _ _ _ _ (by omega), set_keep _ _ _ _ (by omega), set_keep _ _ _ _ (by omega), set_keep _ _ _ _ (by omega)]; exact hcl), ho⟩
  · rw [List.getElem?_set_ne (fun q => e q.symm)] at hy
    obtain ⟨u, hu⟩ := h2 i y hi hy
    refine ⟨u, (by rw [set_keep _ _ _ _ (by omega)]; rw [set_keep _ _ _ _ (by omega)]; rw [set_keep _ _ _ _ (by omega)]; rw [set_keep _ _ _ _ (by omega)]; exact hu.1), (by rw [set_keep _ _ _ _ (by omega)]; rw [set_keep _ _ _ _ (by omega)]; rw [set_keep _ _ _ _ (by omega)]; rw [set_keep _ _ _ _ (by omega)]; exact hu.2.1), (by rw [set_keep _ _ _ _ (by omega)]; rw [set_keep _ _ _ _ (by omega)]; rw [set_keep _ _ _ _ (by omega)]; rw [set_keep _ _ _ _ (by omega)]; exact hu.2.2.1), (by rw [set_keep _ _ _ _ (by omega)]; rw [set_keep _ _ _ _ (by omega)]; rw [set_keep _ _ _ _ (by omega)]; rw [set_keep _ _ _ _ (by omega)]; exact hu.2.2.2.1), (by rw [set_keep _ _ _ _ (by omega)]; rw [set_keep _ _ _ _ (by omega)]; rw [set_keep _ _ _ _ (by omega)]; rw [set_keep _ _ _ _ (by omega)]; exact hu.2.2.2.2.1), ?_⟩
    have hw1 : Own (g + 1) ((((w.setCell ⟨g, j * 5, none⟩ (.int .i64 a0)).setCell ⟨g, j * 5 + 1, none⟩ (.int .i64 a1)).setCell ⟨g, j * 5 + 2, none⟩ (.int .i64 a2)).setCell ⟨g, j * 5 + 3, none⟩ (.int .i64 a3)) u y.tok := (((((hu.2.2.2.2.2).setB (by show g < g + 1; omega) _).setB (by show g < g + 1; omega) _).setB (by show g < g + 1; omega) _).setB (by show g < g + 1; omega) _)
    have hcu := (h1.cellAt (i * 5 + 4) (by omega)).trans hu.2.2.2.2.1
    have hap : Apart u c := by
      rcases Nat.lt_or_gt_of_ne e with q | q
      · exact ha.ap i j u c q hj hcu hc
      · exact (ha.ap j i c u q hi hc hcu).symm
    exact hw1.kept hg hap

set_option maxRecDepth 100000 in
set_option maxHeartbeats 4000000 in
theorem markLinkS_any (g m hi : Nat) (xs : List Lnk) (k : Int) (w : World) (h : LnksO g m w xs m) (ha : RowA 5 g hi w m) (hm : xs.length = m) (hk0 : 0 ≤ k) (hk : k + ((xs.map stL).sum : Nat) ≤ 1000000000) (hgi : g < hi) :
    Calls Try.prog 57 #[.slice (some ⟨g, 0, none⟩) m m, .int .i64 k] w fun e w' => e = .returned (.int .i64 (k + ((xs.map stL).sum : Nat))) ∧ LnksO g m w' (mkAll stL mkL k xs) m ∧ RowA 5 g hi w' m ∧ OutT 68 3 g hi w w' := by
  obtain ⟨s, hs⟩ : ∃ s : Nat, s = (xs.map stL).sum := ⟨_, rfl⟩
  rw [← hs] at hk ⊢
  have HS := Lib.hid hs
  have hm9 : m ≤ 1000000000 := by have := len_le_sum (st := stL) (fun x => by unfold stL; omega) xs; omega
  have HP0 := Lib.hid (show LnksO g m w (mkT stL mkL k xs 0) m by rw [mkT_zero]; exact h)
  have HA0 := Lib.hid ha
  have HM := Lib.hid hm
  have HGI := Lib.hid hgi
  clear hs h ha hm hgi
  go_enter Try.func57, Try.ntmps57
  go_wp2_with fail
  go_loopw [1, 5] (fun t i wr => ∃ (j : Nat) (z : Int), j ≤ m ∧ i = .int .i64 j ∧ t = .int .i64 z ∧ Hid (z = k + (((xs.take j).map stL).sum : Nat)) ∧ Hid (LnksO g m wr (mkT stL mkL k xs j) m) ∧ Hid (RowA 5 g hi wr m) ∧ Hid (OutT 68 3 g hi w wr)) (fun _ i _ => m - (intOf i).toNat)
  case atStart => exact ⟨0, k, Nat.zero_le _, rfl, rfl, Lib.hid (by simp), HP0, HA0, Lib.hid (OutT.refl _ _ _ _ _)⟩
  case round =>
    obtain ⟨j, z, hj, rfl, rfl, HZ, HP, HA, HO⟩ := hrel
    by_cases hlt : j < m
    · obtain ⟨x, hx⟩ : ∃ x, xs[j]? = some x := ⟨_, List.getElem?_eq_getElem (by rw [HM.out]; exact hlt)⟩
      have HX := Lib.hid hx
      obtain ⟨c, e0, e1, e2, e3, e4, hc, hfr⟩ := HP.out.look hlt (mkT_at hx)
      have HC := Lib.hid hc
      have HCC := Lib.hid e4
      have HIL := Lib.hid hc.lt
      have hst := mk_sum_step (st := stL) hx
      have hle := mk_sum_take_le (st := stL) xs (j + 1)
      rw [hst, ← HS.out] at hle
      obtain ⟨un, hun⟩ : ∃ q, q = x.tok.length := ⟨_, rfl⟩
      have hzb : 0 ≤ z ∧ z + 4 + (un : Int) ≤ 1000000000 := by have := HZ.out; have hh : stL x = 4 + x.tok.length := rfl; rw [hh] at hle; omega
      obtain ⟨ua, uc, rfl⟩ := hc.shape
      obtain ⟨f0, f1, f2, f3, f4, hgl⟩ := hfr
      have HST := Lib.hid hst
      have HUN := Lib.hid hun
      rw [← hun] at e4 HCC HIL HC
      clear hx hc hst hle hun
      go_wp2_with (go_at_call 20; have HC2 := Lib.hid ((((HC.out.setB (a := ⟨g, j * 5, none⟩) (by show g < g + 1; omega) (.int .i64 (z))).setB (a := ⟨g, j * 5 + 1, none⟩) (by show g < g + 1; omega) (.int .i64 (z + 1))).setB (a := ⟨g, j * 5 + 2, none⟩) (by show g < g + 1; omega) (.int .i64 (z + 1 + 1))).setB (a := ⟨g, j * 5 + 3, none⟩) (by show g < g + 1; omega) (.int .i64 (z + 1 + 1 + 1))); refine (mark_any (g + 1) (.slice ua un uc) x.tok (z + 1 + 1 + 1 + 1) _ HC2.out (by omega) (by omega) (by have := HUN.out; omega)).mono ?_; rintro e w2 ⟨rfl, ho2, hg2⟩; have HQ := Lib.hid (LnksO.mark HP.out HA.out hlt (by rw [mkT_len]; exact HM.out) (mkT_at HX.out) HCC.out hg2 ho2); have HG2 := Lib.hid hg2; rw [← HUN.out]; clear ho2 hg2)
      go_roundw
      case rel =>
        have q1 := HQ.out.1
        have hzz := HZ.out
        have hst := HST.out
        have hun := HUN.out
        have hh : stL x = 4 + x.tok.length := rfl
        refine ⟨j + 1, z + 1 + 1 + 1 + 1 + (un : Int), by omega, by go_num, rfl, Lib.hid (by rw [hst, hh]; omega), Lib.hid ?_, Lib.hid HQ.out.2, Lib.hid ?_⟩
        · have e := mkT_step (st := stL) (mk := mkL) (k := k) HX.out
          rw [← hzz] at e
          rw [← e]
          unfold mkL
          exact q1
        · exact (((((HO.out.setC (p := ⟨g, j * 5, none⟩) (Nat.le_refl _) HGI.out HP.out.typed (.int .i64 (z))).setC (p := ⟨g, j * 5 + 1, none⟩) (Nat.le_refl _) HGI.out (HP.out.typed.setCell _ _) (.int .i64 (z + 1))).setC (p := ⟨g, j * 5 + 2, none⟩) (Nat.le_refl _) HGI.out ((HP.out.typed.setCell _ _).setCell _ _) (.int .i64 (z + 1 + 1))).setC (p := ⟨g, j * 5 + 3, none⟩) (Nat.le_refl _) HGI.out (((HP.out.typed.setCell _ _).setCell _ _).setCell _ _) (.int .i64 (z + 1 + 1 + 1)))).grown HG2.out (fun q e => ⟨by have := (HIL.out q e).1; omega, HA.out.lt j _ hlt HCC.out q e, row_typed HC2.out q e⟩)
      case measure => simp [intOf]; omega
    · obtain rfl : j = m := by omega
      have hz := HZ.out
      have hp := HP.out
      rw [← HM.out] at hz hp
      rw [List.take_length, ← HS.out] at hz
      rw [mkT_all] at hp
      rw [HM.out] at hp
      subst hz
      go_wp2_with fail
      go_ret
      exact ⟨rfl, hp, HA.out, HO.out⟩

def stN (n : Net) : Nat := (n.progs.map stP).sum + (n.links.map stL).sum
theorem sum_stP : ∀ ps : List Prg, (ps.map stP).sum ≤ 4 * (ps.length + (ps.map fun p => p.code.length).sum)
  | [] => by simp
  | p :: ps => by
    have := sum_stP ps
    rw [List.map_cons, List.sum_cons, List.map_cons, List.sum_cons, List.length_cons]
    unfold stP at this ⊢
    omega
theorem sum_stL : ∀ ps : List Lnk, (ps.map stL).sum ≤ 4 * (ps.length + (ps.map fun p => p.tok.length).sum)
  | [] => by simp
  | p :: ps => by
    have := sum_stL ps
    rw [List.map_cons, List.sum_cons, List.map_cons, List.sum_cons, List.length_cons]
    unfold stL at this ⊢
    omega
theorem stN_le (n : Net) : stN n ≤ 4 * szN n := by
  have := sum_stP n.progs
  have := sum_stL n.links
  unfold stN szN
  omega
set_option maxRecDepth 100000 in
set_option maxHeartbeats 1600000 in
theorem markNet_any (lo hi : Nat) (v : Value) (n : Net) (k : Int) (w : World) (h : NetO lo hi w v n) (hw : hi ≤ w.heap.size) (hk0 : 0 ≤ k) (hk : k + (stN n : Nat) ≤ 1000000000) :
    Calls Try.prog 19 #[v, .int .i64 k] w fun e w' => e = .returned (.int .i64 (k + (stN n : Nat))) ∧ Out lo hi w w' := by
  obtain ⟨g, h, rfl, ⟨hg1, hg2⟩, ⟨hh1, hh2⟩, hp, hl, ap, al⟩ := h
  obtain ⟨ps, ls⟩ := n
  unfold stN at hk ⊢
  simp only [] at hp hl ap al hk ⊢
  have HL := Lib.hid hl
  have AL := Lib.hid al
  have LH := Lib.hid (rowltL hl)
  clear hl al
  obtain ⟨s1, hs1⟩ : ∃ s, s = (ps.map stP).sum := ⟨_, rfl⟩
  obtain ⟨s2, hs2⟩ : ∃ s, s = (ls.map stL).sum := ⟨_, rfl⟩
  rw [← hs1, ← hs2] at hk ⊢
  have CP := Lib.hid (fun (W : World) (hb : Below w.heap.size w W) => markProgramS_any g ps.length hi ps k W (hp.below hb) (ap.below hb (rowltP hp)) rfl hk0 (by rw [← hs1]; omega) hg2)
  have CL := Lib.hid (fun (W : World) (h1 : LnksO h ls.length W ls ls.length) (h2 : RowA 5 h hi W ls.length) => markLinkS_any h ls.length hi ls (k + (s1 : Nat)) W h1 h2 rfl (by omega) (by rw [← hs2]; omega) hh2)
  rw [← hs1] at CP
  rw [← hs2] at CL
  obtain ⟨m, hm⟩ : ∃ m, m = ps.length := ⟨_, rfl⟩
  obtain ⟨n, hn⟩ : ∃ m, m = ls.length := ⟨_, rfl⟩
  rw [← hm] at CP ⊢
  rw [← hn] at CL HL AL ⊢
  clear hp ap hs1 hs2 hm hn
  have hb := Lib.hid ((Below.refl w.heap.size w).al (.cells #[.slice (some ⟨g, 0, none⟩) m m, .slice (some ⟨h, 0, none⟩) n n] 31))
  have hH := Lib.hid (hp1 w (.cells #[.slice (some ⟨g, 0, none⟩) m m, .slice (some ⟨h, 0, none⟩) n n] 31))
  go_enter Try.func19, Try.ntmps19
  go_wp2_with fail
  go_at_call 56
  with_reducible refine (CP.out _ hb.out).mono ?_
  rintro e w2 ⟨rfl, hP, hA, hO⟩
  have HL1 := HL.out.below hb.out
  obtain ⟨HL2, hr⟩ := HL1.outT hO (by decide) (by decide) (by decide) (by decide)
  have AL2 := hr hi n (Nat.le_refl _) (AL.out.below hb.out LH.out)
  have CL2 := Lib.hid (CL.out _ HL2 AL2)
  have HO2 := Lib.hid hO
  have B2 := hO.out.blk hH.out (.inr hw)
  obtain ⟨c0, c1⟩ := cells2 B2
  have cl := lt_of B2
  clear hP hA hO HL1 HL2 hr AL2 B2
  go_wp2_with (go_at_call 57; with_reducible refine CL2.out.mono ?_; rintro e w3 ⟨rfl, _, _, hO3⟩; have HO3 := Lib.hid hO3; clear hO3)
  go_ret
  exact ⟨(by first | (rw [Int.natCast_add, Int.add_assoc]; rfl) | (rw [Int.natCast_add, ← Int.add_assoc]; rfl)), ((((Out.refl lo hi w).al _).trans (HO2.out.out.mono hg1 (Nat.le_refl _))).trans (HO3.out.out.mono hh1 (Nat.le_refl _)))⟩
end Go.Proofs.Ytkeoefbkeommhaa
