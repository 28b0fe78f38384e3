/-
  What a list of streams that came in reads as. No statement of the seat is proved here.
  Slices of slices of ints that a call made: marks, and marks read. No statement of the seat is proved here.
  Sizes of slices of slices of ints by the law's own functions. No statement of the seat is proved here.
  Arguments and results of a law, each with the blocks that it lies in: copies, marks. No statement of the seat is proved here.
-/
import Derived.Test.YtkeoefbkeommhaaRgf
import Derived.Test.YtkeoefbkeommhaaOpb
import Derived.OpenShut
import Derived.Test.YtkeoefbkeommhaaNetLw
import Derived.Test.YtkeoefbkeommhaaFamA
namespace Go.Proofs.Ytkeoefbkeommhaa
open Go.RowKit

open Go.ChangeShapes Go.WideShapes Go.ChangeAt Go.RowKit

section
variable {H : Type} {enc : TypeId × Value → H} {w : World} {base : Nat} {spare : Nat → Bool} {held : Bool}

theorem cells_rowsL : Try.prog.cellsOf 152 = 1 := by kernel_rfl
set_option maxRecDepth 100000 in
theorem open_rowsI {fuel : Nat} {cs : List Value} {x : DataW H × List MemPlace} (h : DataW.trod enc Try.prog w base spare held fuel 152 cs = some x) :
    ∃ c xss, cs = [c] ∧ SlR w c xss := by
  rcases Go.Deep.open_slice Try.underlying152 h with ⟨rfl, _⟩ | ⟨a, len, cap, m, n, D, Pl, rfl, _, hl, hm, hmm, _, hx⟩
  · exact ⟨_, [], rfl, none, 0, rfl, Nat.le_refl _, by simp, fun _ => rfl, .inl rfl⟩
  · have hle : len ≤ m := by rw [hmm]; split <;> omega
    rw [cells_ints] at hx
    have hy : ∀ i, i < len → ∃ y : List Int, ∃ c, w.cell? (a.add (i * 1)) = some c ∧ Sl w c y := by
      intro i hi
      obtain ⟨cs', h1, h2⟩ := hx i (by omega)
      obtain ⟨c, y, rfl, hs⟩ := open_intsL h2
      have hc := (World.cells?_some h1).2.2
      refine ⟨y, c, ?_, hs⟩
      have := hc 0 (by omega)
      simpa [Addr.add] using this
    obtain ⟨Y, hY⟩ := Go.Deep.choose_lt hy
    refine ⟨_, (List.range len).map Y, rfl, some a, cap, by simp, by simpa using hl, hm, (fun e => by cases e), ?_⟩
    by_cases h0 : len = 0
    · left; subst h0; rfl
    · right
      obtain ⟨b, off, spot⟩ := a
      obtain ⟨c1, h1, _⟩ := hY 0 (by omega)
      obtain rfl : spot = none := by simpa [Addr.add] using World.cell?_spot h1
      refine ⟨b, off, rfl, by have := World.block_lt_of_cell? w _ h1; simpa [Addr.add] using this, fun i x hi => ?_⟩
      have hlt : i < len := by have := (List.getElem?_eq_some_iff.1 hi).1; simpa using this
      have hxe : x = Y i := by rw [List.getElem?_map, List.getElem?_range hlt] at hi; simpa using hi.symm
      subst hxe
      obtain ⟨c, hc⟩ := hY i hlt
      simp only [Addr.add_lit, Nat.mul_one] at hc
      exact ⟨c, hc⟩
set_option maxRecDepth 100000 in
theorem open_rowsL {v : Value} {d : DataW H} {p : List MemPlace} {r : _} {b2 : Nat} (hok : Value.okWide Try.prog w r b2 152 v) (h : DataW.Trod enc Try.prog w base spare held 152 v d p) : ∃ xss, SlR w v xss := by
  obtain ⟨a, len, cap, rfl⟩ := okWide_slice Try.underlying152 hok
  obtain ⟨fuel, h⟩ := h
  obtain ⟨c, xss, e, hs⟩ := open_rowsI h
  simp only [Value.cells, List.cons.injEq, and_true] at e
  subst e
  exact ⟨xss, hs⟩
end

theorem mkAll_at {α : Type} {st : α → Nat} {mk : Int → α → α} : ∀ (k : Int) (xs : List α) (j : Nat) (x : α), xs[j]? = some x → (mkAll st mk k xs)[j]? = some (mk (k + (((xs.take j).map st).sum : Nat)) x)
  | k, [], j, x, h => by simp at h
  | k, y :: ys, 0, x, h => by
    simp at h; subst h; simp [mkAll]
  | k, y :: ys, j + 1, x, h => by
    rw [List.getElem?_cons_succ] at h
    rw [mkAll, List.getElem?_cons_succ, mkAll_at _ ys j x h, List.take_succ_cons, List.map_cons, List.sum_cons]
    congr 2
    rw [Int.natCast_add]; omega
def mkR (k : Int) (xs : List Int) : List Int := marks k xs.length
def stR (xs : List Int) : Nat := xs.length
def sumT (xss : List (List Int)) : Nat := (xss.map stR).sum
/-- The slice of slices 'v' holds these rows; its block, where it has one, lies from lo on, below hi. -/
def VR (lo hi : Nat) (w : World) (v : Value) (us : List Value) : Prop :=
  (v = .slice none 0 0 ∧ us = []) ∨ ∃ (B cap : Nat) (cur : Array Value), v = .slice (some ⟨B, 0, none⟩) us.length cap ∧ lo ≤ B ∧ B < hi ∧ us.length ≤ cap ∧ cap ≤ maxLen ∧ w.heap[B]? = some (.cells cur 26) ∧ cur.toList.take us.length = us
/-- What lies in a result of rows, and in a row beside it: in blocks from lo on, below hi, no two in one. -/
def OutH (lo hi : Nat) (w : World) (v u : Value) (outs : List (List Int)) (used : List Int) : Prop :=
  ∃ us, VR lo hi w v us ∧ Fam lo w (us ++ [u]) (outs ++ [used]) ∧ ∀ x ∈ us ++ [u], ∀ q, x.ownBlock = some q → q < hi
theorem VR.keep {lo hi : Nat} {w w' : World} {v : Value} {us : List Value} (h : VR lo hi w v us) (hk : ∀ (B : Nat) (cur : Array Value), lo ≤ B → B < hi → w.heap[B]? = some (.cells cur 26) → w'.heap[B]? = some (.cells cur 26)) : VR lo hi w' v us := by
  rcases h with h | ⟨B, cap, cur, h1, h2, h3, h4, h5, h6, h7⟩
  · exact .inl h
  · exact .inr ⟨B, cap, cur, h1, h2, h3, h4, h5, hk B cur h2 h3 h6, h7⟩
theorem OutH.below {lo hi : Nat} {w w' : World} {v u : Value} {outs : List (List Int)} {used : List Int} (h : OutH lo hi w v u outs used) (hb : Below w.heap.size w w') : OutH lo hi w' v u outs used := by
  obtain ⟨us, h1, h2, h3⟩ := h
  exact ⟨us, h1.keep (fun B cur _ _ q => blk_in q hb), h2.below hb, h3⟩
theorem OutH.out {lo hi l2 h2 : Nat} {w w' : World} {v u : Value} {outs : List (List Int)} {used : List Int} (h : OutH lo hi w v u outs used) (ho : Out l2 h2 w w') (hd : hi ≤ l2 ∨ h2 ≤ lo) : OutH lo hi w' v u outs used := by
  obtain ⟨us, h1, hF, h3⟩ := h
  refine ⟨us, h1.keep (fun B cur a b q => ho.blk q (by omega)), ⟨hF.len, fun i x xs hx hxs => ?_, hF.apart⟩, h3⟩
  exact (hF.own i x xs hx hxs).out (h2 := hi) (h3 x (List.mem_of_getElem? hx)) ho (by omega)
theorem OutH.mono {lo hi lo' hi' : Nat} {w : World} {v u : Value} {outs : List (List Int)} {used : List Int} (h : OutH lo hi w v u outs used) (h1 : lo' ≤ lo) (h2 : hi ≤ hi') : OutH lo' hi' w v u outs used := by
  obtain ⟨us, hv, hF, h3⟩ := h
  refine ⟨us, ?_, hF.mono h1, fun x hx q e => Nat.lt_of_lt_of_le (h3 x hx q e) h2⟩
  rcases hv with hv | ⟨B, cap, cur, a1, a2, a3, a4, a5, a6, a7⟩
  · exact .inl hv
  · exact .inr ⟨B, cap, cur, a1, by omega, by omega, a4, a5, a6, a7⟩
theorem OutH.u {lo hi : Nat} {w : World} {v u : Value} {outs : List (List Int)} {used : List Int} (h : OutH lo hi w v u outs used) : Own lo w u used ∧ ∀ q, u.ownBlock = some q → q < hi := by
  obtain ⟨us, _, hF, h3⟩ := h
  have hl := hF.len
  simp only [List.length_append, List.length_cons, List.length_nil] at hl
  exact ⟨hF.own us.length u used (by rw [List.getElem?_append_right (Nat.le_refl _)]; simp) (by rw [show us.length = outs.length by omega, List.getElem?_append_right (Nat.le_refl _)]; simp), h3 u (by simp)⟩
theorem OutH.slR {lo hi : Nat} {w : World} {v u : Value} {outs : List (List Int)} {used : List Int} (h : OutH lo hi w v u outs used) : SlR w v outs := by
  obtain ⟨us, hv, hF, h3⟩ := h
  have hl := hF.len
  simp only [List.length_append, List.length_cons, List.length_nil] at hl
  have hl2 : us.length = outs.length := by omega
  rcases hv with ⟨rfl, rfl⟩ | ⟨B, cap, cur, rfl, a2, a3, a4, a5, a6, a7⟩
  · obtain rfl : outs = [] := List.eq_nil_of_length_eq_zero (by simpa using hl2.symm)
    exact ⟨none, 0, rfl, Nat.le_refl _, by simp, fun _ => rfl, .inl rfl⟩
  · refine ⟨_, cap, by rw [hl2], by omega, a5, (fun e => by cases e), .inr ⟨B, 0, rfl, lt_of a6, fun i xs hx => ?_⟩⟩
    have hi : i < outs.length := (List.getElem?_eq_some_iff.1 hx).1
    obtain ⟨x, hxu⟩ : ∃ x, us[i]? = some x := ⟨_, List.getElem?_eq_getElem (by omega)⟩
    refine ⟨x, ?_, (hF.own i x xs (by rw [List.getElem?_append_left (by omega)]; exact hxu) (by rw [List.getElem?_append_left hi]; exact hx)).sl⟩
    rw [Nat.zero_add, cell_of a6 i, ← Array.getElem?_toList]
    have e : (cur.toList.take us.length)[i]? = some x := by rw [a7]; exact hxu
    rw [List.getElem?_take, if_pos (by omega)] at e
    exact e
theorem OutH.shape {lo hi : Nat} {w : World} {v u : Value} {outs : List (List Int)} {used : List Int} (h : OutH lo hi w v u outs used) : (∃ a c, v = .slice a outs.length c) ∧ ∃ a c, u = .slice a used.length c := by
  obtain ⟨a, c, e, _⟩ := h.slR
  exact ⟨⟨a, c, e⟩, h.u.1.shape⟩
theorem outH_nil (lo hi : Nat) (w : World) : OutH lo hi w (.slice none 0 0) (.slice none 0 0) [] [] := by
  refine ⟨[], .inl ⟨rfl, rfl⟩, ⟨rfl, fun i u xs h1 h2 => ?_, fun i j u u' h1 h2 hij => ?_⟩, fun x hx q e => ?_⟩
  · rcases i with _ | i
    · simp at h1 h2; subst h1; subst h2; exact own_nil _ _
    · simp at h1
  · rcases i with _ | i
    · rcases j with _ | j
      · omega
      · simp at h2
    · simp at h1
  · simp at hx; subst hx; simp [Value.ownBlock] at e
theorem grown_keep {w w' : World} {lo g T : Nat} {u : Value} {xs : List Int} {cs : Array Value} (h : w.heap[g]? = some (.cells cs T)) (hT : T ≠ 3) (hou : Own lo w u xs) (hg : w.grownBy w' u.ownBlock) : w'.heap[g]? = some (.cells cs T) := by
  rw [hg.block g (lt_of h) (own_blk_ne hou h hT)]
  exact h
/-- One row is marked. -/
theorem OutH.row {lo hi j : Nat} {w w' : World} {v u x : Value} {us : List Value} {outs : List (List Int)} {used ys : List Int} (hv : VR lo hi w v us) (hF : Fam lo w (us ++ [u]) (outs ++ [used]))
    (hx : us[j]? = some x) (hg : w.grownBy w' x.ownBlock) (ho : Own lo w' x ys) : VR lo hi w' v us ∧ Fam lo w' (us ++ [u]) (outs.set j ys ++ [used]) := by
  have hl := hF.len
  simp only [List.length_append, List.length_cons, List.length_nil] at hl
  have hj := (List.getElem?_eq_some_iff.1 hx).1
  have hx2 : (us ++ [u])[j]? = some x := by rw [List.getElem?_append_left hj]; exact hx
  have hox := hF.get hx2
  refine ⟨hv.keep (fun B cur _ _ q => grown_keep q (by decide) hox hg), ?_⟩
  have F := hF.upd (w' := w') hx2 (fun y ys hy ha => hy.kept hg ha) ho (.inl rfl)
  rw [List.set_append, if_pos hj, List.set_append, if_pos (by omega)] at F
  rwa [show us.set j x = us from by
    apply List.ext_getElem?
    intro i
    rw [List.getElem?_set]
    by_cases e : j = i
    · rw [if_pos e, if_pos hj, ← e, hx]
    · rw [if_neg e]] at F
/-- The row beside is marked. -/
theorem OutH.last {lo hi : Nat} {w w' : World} {v u : Value} {outs : List (List Int)} {used ys : List Int} (h : OutH lo hi w v u outs used) (hg : w.grownBy w' u.ownBlock) (ho : Own lo w' u ys) : OutH lo hi w' v u outs ys := by
  obtain ⟨us, hv, hF, h3⟩ := h
  have hl := hF.len
  simp only [List.length_append, List.length_cons, List.length_nil] at hl
  have hx2 : (us ++ [u])[us.length]? = some u := by rw [List.getElem?_append_right (Nat.le_refl _)]; simp
  have hox := hF.get hx2
  refine ⟨us, hv.keep (fun B cur _ _ q => grown_keep q (by decide) hox hg), ?_, h3⟩
  have F := hF.upd (w' := w') hx2 (fun y ys hy ha => hy.kept hg ha) ho (.inl rfl)
  rw [List.set_append, if_neg (by omega), List.set_append, if_neg (by omega)] at F
  simpa [show us.length - outs.length = 0 by omega] using F
theorem OutH.rowsO {g m hi : Nat} {w : World} {xss : List (List Int)} (h : RowsO g m w xss m) (ha : RowA 1 g hi w m) (hm : xss.length = m) (hg : g < hi) : OutH g hi w (.slice (some ⟨g, 0, none⟩) m m) (.slice none 0 0) xss [] := by
  obtain ⟨cs, h1, h2⟩ := h
  have hl := h1.1
  obtain ⟨cur, b1, b2, b3, b4, _⟩ : ∃ cur, w.heap[g]? = some (.cells cur 26) ∧ cur.toList.take m = cs ∧ m ≤ m ∧ m ≤ maxLen ∧ g ≤ g := by
    rcases h1.2 with ⟨e, _⟩ | ⟨g', cap', cur, e, c1, c2, c3, c4, c5, c6⟩
    · cases e
    · simp only [Value.slice.injEq, Option.some.injEq, Addr.mk.injEq, and_true, true_and] at e
      obtain ⟨rfl, rfl⟩ := e
      rw [Nat.mul_one] at c6
      exact ⟨cur, c2, c6, c3, c4, c1⟩
  have hlc : cs.length = m := by omega
  have cell : ∀ i c, cs[i]? = some c → w.cell? ⟨g, i * 1 + (1 - 1), none⟩ = some c := fun i c hc => by
    rw [show i * 1 + (1 - 1) = i by omega, h1.cellAt i (by have := (List.getElem?_eq_some_iff.1 hc).1; omega)]; exact hc
  have app : ∀ (i : Nat) (x : Value), (cs ++ [Value.slice none 0 0])[i]? = some x → (i < m ∧ cs[i]? = some x) ∨ x = .slice none 0 0 := by
    intro i x hx
    by_cases q : i < cs.length
    · rw [List.getElem?_append_left q] at hx; exact .inl ⟨by omega, hx⟩
    · rw [List.getElem?_append_right (by omega)] at hx
      rcases e : i - cs.length with _ | z
      · rw [e] at hx; simp at hx; exact .inr hx.symm
      · rw [e] at hx; simp at hx
  refine ⟨cs, .inr ⟨g, m, cur, by rw [hlc], Nat.le_refl _, hg, by omega, b4, b1, by rw [hlc]; exact b2⟩, ⟨by simp [hm, hlc], ?_, ?_⟩, ?_⟩
  · intro i x xs hx hxs
    rcases app i x hx with ⟨q, hc⟩ | rfl
    · rw [List.getElem?_append_left (by omega)] at hxs
      obtain ⟨c, hc2, ho⟩ := h2 i xs q hxs
      rw [hc] at hc2
      obtain rfl := Option.some.inj hc2
      exact ho.mono (by omega)
    · by_cases q : i < m
      · rw [List.getElem?_append_left (by omega)] at hx hxs
        obtain ⟨c, hc2, ho⟩ := h2 i xs q hxs
        rw [hx] at hc2
        obtain rfl := Option.some.inj hc2
        exact ho.mono (by omega)
      · rw [List.getElem?_append_right (by omega)] at hxs
        rcases e : i - xss.length with _ | z
        · rw [e] at hxs; simp at hxs; subst hxs; exact own_nil _ _
        · rw [e] at hxs; simp at hxs
  · intro i j x y hx hy hij
    rcases app i x hx with ⟨q, hc⟩ | rfl
    · rcases app j y hy with ⟨q', hc'⟩ | rfl
      · rcases Nat.lt_or_gt_of_ne hij with z | z
        · exact ha.ap i j x y z q' (cell i x hc) (cell j y hc')
        · exact (ha.ap j i y x z q (cell j y hc') (cell i x hc)).symm
      · cases e : x.ownBlock with
        | none => exact .inl e
        | some k => exact .inr (by rw [e]; simp [Value.ownBlock])
    · exact apart_nil _
  · intro x hx q e
    rw [List.mem_append] at hx
    rcases hx with hx | hx
    · obtain ⟨i, hi'⟩ := List.getElem?_of_mem hx
      exact ha.lt i x (by have := (List.getElem?_eq_some_iff.1 hi').1; omega) (cell i x hi') q e
    · simp at hx; subst hx; simp [Value.ownBlock] at e

def sumR (xs : List (List Int)) : Nat := xs.length + (xs.map fun p => p.length).sum
theorem len_sumR {xss : List (List Int)} {xs : List Int} (h : xs ∈ xss) : xs.length ≤ sumR xss := by
  unfold sumR
  induction xss with
  | nil => cases h
  | cons y ys ih =>
    simp only [List.map_cons, List.sum_cons, List.length_cons]
    rcases List.mem_cons.1 h with e | e
    · subst e; omega
    · have := ih e; omega
/-- A row of ints of the call's own, in a block from lo on, below hi. -/
def OwnH (lo hi : Nat) (w : World) (v : Value) (xs : List Int) : Prop := Own lo w v xs ∧ ∀ q, v.ownBlock = some q → q < hi
theorem OwnH.below {lo hi : Nat} {w w' : World} {v : Value} {xs : List Int} (h : OwnH lo hi w v xs) (hb : Below w.heap.size w w') : OwnH lo hi w' v xs := ⟨h.1.below hb, h.2⟩
theorem OwnH.out {lo hi l2 h2 : Nat} {w w' : World} {v : Value} {xs : List Int} (h : OwnH lo hi w v xs) (ho : Out l2 h2 w w') (hd : hi ≤ l2 ∨ h2 ≤ lo) : OwnH lo hi w' v xs := ⟨h.1.out h.2 ho (by omega), h.2⟩
theorem OwnH.v {lo hi : Nat} {w : World} {v : Value} {xs : List Int} (h : OwnH lo hi w v xs) : Sl w v xs := h.1.sl
theorem OwnH.shape {lo hi : Nat} {w : World} {v : Value} {xs : List Int} (h : OwnH lo hi w v xs) : ∃ a c, v = .slice a xs.length c := h.1.shape
theorem OwnH.of {lo : Nat} {w : World} {v : Value} {xs : List Int} (h : Own lo w v xs) : OwnH lo w.heap.size w v xs := ⟨h, fun q e => (h.lt q e).2⟩
theorem toInt_h (v : Value) (xs : List Int) (w : World) (h : Sl w v xs) (hs : xs.length ≤ 1048576) :
    Calls Try.prog 15 #[v] w fun e w' => ∃ v', e = .returned v' ∧ OwnH w.heap.size w'.heap.size w' v' xs ∧ Below w.heap.size w w' :=
  (toInt_any v xs w h hs).mono fun _ _ ⟨v', he, ho, hb⟩ => ⟨v', he, OwnH.of ho, hb⟩
theorem mark_h (lo hi : Nat) (v : Value) (xs : List Int) (k : Int) (w : World) (h : OwnH lo hi w v xs) (hk0 : 0 ≤ k) (hk : k + (xs.length : Nat) ≤ 1000000000) :
    Calls Try.prog 20 #[v, .int .i64 k] w fun e w' => e = .returned (.int .i64 (k + (xs.length : Int))) ∧ OwnH lo hi w' v (marks k xs.length) ∧ Out lo hi w w' :=
  (mark_any lo v xs k w h.1 hk0 (by omega) (by omega)).mono fun _ _ ⟨he, ho, hg⟩ => ⟨he, ⟨ho, h.2⟩, Out.of_grown hg fun q e => ⟨(h.1.lt q e).1, h.2 q e⟩⟩
theorem markU_h (lo hi : Nat) (v u : Value) (outs : List (List Int)) (xs : List Int) (k : Int) (w : World) (h : OutH lo hi w v u outs xs) (hk0 : 0 ≤ k) (hk : k + (xs.length : Nat) ≤ 1000000000) :
    Calls Try.prog 20 #[u, .int .i64 k] w fun e w' => e = .returned (.int .i64 (k + (xs.length : Int))) ∧ OutH lo hi w' v u outs (marks k xs.length) ∧ Out lo hi w w' :=
  (mark_any lo u xs k w h.u.1 hk0 (by omega) (by omega)).mono fun _ _ ⟨he, ho, hg⟩ => ⟨he, h.last hg ho, Out.of_grown hg fun q e => ⟨(h.u.1.lt q e).1, h.u.2 q e⟩⟩

/-- A slice of slices of the call's own. -/
def RowsH (lo hi : Nat) (w : World) (v : Value) (xss : List (List Int)) : Prop := OutH lo hi w v (.slice none 0 0) xss []
theorem RowsH.below {lo hi : Nat} {w w' : World} {v : Value} {xs : List (List Int)} (h : RowsH lo hi w v xs) (hb : Below w.heap.size w w') : RowsH lo hi w' v xs := OutH.below h hb
theorem RowsH.out {lo hi l2 h2 : Nat} {w w' : World} {v : Value} {xs : List (List Int)} (h : RowsH lo hi w v xs) (ho : Out l2 h2 w w') (hd : hi ≤ l2 ∨ h2 ≤ lo) : RowsH lo hi w' v xs := OutH.out h ho hd
theorem RowsH.v {lo hi : Nat} {w : World} {v : Value} {xs : List (List Int)} (h : RowsH lo hi w v xs) : SlR w v xs := OutH.slR h
theorem RowsH.shape {lo hi : Nat} {w : World} {v : Value} {xs : List (List Int)} (h : RowsH lo hi w v xs) : ∃ a c, v = .slice a xs.length c := (OutH.shape h).1
theorem sumT_R (xss : List (List Int)) : xss.length + sumT xss = sumR xss := rfl
/-- A program of the call's own. -/
def PrgH (lo hi : Nat) (w : World) (v : Value) (p : Prg) : Prop := PrgO lo w v p ∧ ∀ q, (lastOf v).ownBlock = some q → q < hi
theorem PrgO.lt {lo : Nat} {w : World} {v : Value} {p : Prg} (h : PrgO lo w v p) : ∀ q, (lastOf v).ownBlock = some q → lo ≤ q ∧ q < w.heap.size := by
  obtain ⟨c, rfl, h⟩ := h
  exact h.lt
theorem PrgH.below {lo hi : Nat} {w w' : World} {v : Value} {p : Prg} (h : PrgH lo hi w v p) (hb : Below w.heap.size w w') : PrgH lo hi w' v p := by
  obtain ⟨⟨c, rfl, h⟩, h2⟩ := h
  exact ⟨⟨c, rfl, h.below hb⟩, h2⟩
theorem PrgH.out {lo hi l2 h2 : Nat} {w w' : World} {v : Value} {p : Prg} (h : PrgH lo hi w v p) (ho : Out l2 h2 w w') (hd : hi ≤ l2 ∨ h2 ≤ lo) : PrgH lo hi w' v p := by
  obtain ⟨⟨c, rfl, h⟩, h2⟩ := h
  exact ⟨⟨c, rfl, h.out h2 ho (by omega)⟩, h2⟩
theorem PrgH.v {lo hi : Nat} {w : World} {v : Value} {p : Prg} (h : PrgH lo hi w v p) : PrgV w v p := by
  obtain ⟨⟨c, rfl, h⟩, h2⟩ := h
  exact ⟨c, rfl, h.sl⟩
theorem PrgH.shape {lo hi : Nat} {w : World} {v : Value} {p : Prg} (h : PrgH lo hi w v p) : ∃ a c, v = .agg #[.int .i64 p.ins, .int .i64 p.outs, .slice a p.code.length c] := by
  obtain ⟨⟨c, rfl, h⟩, h2⟩ := h
  obtain ⟨a, k, rfl⟩ := h.shape
  exact ⟨a, k, rfl⟩
theorem toPrg_h (v : Value) (p : Prg) (w : World) (h : PrgV w v p) (hs : p.code.length ≤ 1048576) :
    Calls Try.prog 106 #[v] w fun e w' => ∃ v', e = .returned v' ∧ PrgH w.heap.size w'.heap.size w' v' p ∧ Below w.heap.size w w' :=
  (toPrg_any v p w h hs).mono fun _ _ ⟨v', he, ho, hb⟩ => ⟨v', he, ⟨ho, fun q e => (ho.lt q e).2⟩, hb⟩
/-- A network of the call's own. -/
def NetH (lo hi : Nat) (w : World) (v : Value) (n : Net) : Prop := NetO lo hi w v n ∧ (∀ l ∈ n.links, wfL l) ∧ hi ≤ w.heap.size
theorem NetV.wf {w : World} {v : Value} {n : Net} (h : NetV w v n) : ∀ l ∈ n.links, wfL l := by
  obtain ⟨_, _, _, _, hl⟩ := h; exact hl.wf
theorem NetH.below {lo hi : Nat} {w w' : World} {v : Value} {n : Net} (h : NetH lo hi w v n) (hb : Below w.heap.size w w') : NetH lo hi w' v n := ⟨h.1.below hb, h.2.1, Nat.le_trans h.2.2 hb.size⟩
theorem NetH.v {lo hi : Nat} {w : World} {v : Value} {n : Net} (h : NetH lo hi w v n) : NetV w v n := h.1.v h.2.1
theorem NetH.shape {lo hi : Nat} {w : World} {v : Value} {n : Net} (h : NetH lo hi w v n) : ∃ a b, v = .agg #[.slice a n.progs.length n.progs.length, .slice b n.links.length n.links.length] := by
  obtain ⟨⟨g, k, rfl, _⟩, _⟩ := h
  exact ⟨_, _, rfl⟩
theorem toNet_h (v : Value) (n : Net) (w : World) (h : NetV w v n) (hs : szN n ≤ 1048576) :
    Calls Try.prog 14 #[v] w fun e w' => ∃ v', e = .returned v' ∧ NetH w.heap.size w'.heap.size w' v' n ∧ Below w.heap.size w w' :=
  (toNet_any v n w h hs).mono fun _ _ ⟨v', he, ho, hb⟩ => ⟨v', he, ⟨ho, h.wf, Nat.le_refl _⟩, hb⟩
theorem markNet_h (lo hi : Nat) (v : Value) (n : Net) (k : Int) (w : World) (h : NetH lo hi w v n) (hk0 : 0 ≤ k) (hk : k + 4 * (szN n : Nat) ≤ 1000000000) :
    Calls Try.prog 19 #[v, .int .i64 k] w fun e w' => e = .returned (.int .i64 (k + (stN n : Nat))) ∧ Out lo hi w w' :=
  (markNet_any lo hi v n k w h.1 h.2.2 hk0 (by have := stN_le n; omega)).mono fun _ _ h => h
theorem ownH_lo {lo lo' hi : Nat} {w : World} {v : Value} {xs : List Int} (hl : lo' ≤ lo) (h : OwnH lo hi w v xs) : OwnH lo' hi w v xs := ⟨h.1.mono hl, h.2⟩
theorem rowsH_lo {lo lo' hi : Nat} {w : World} {v : Value} {xs : List (List Int)} (hl : lo' ≤ lo) (h : RowsH lo hi w v xs) : RowsH lo' hi w v xs := OutH.mono h hl (Nat.le_refl _)
end Go.Proofs.Ytkeoefbkeommhaa
