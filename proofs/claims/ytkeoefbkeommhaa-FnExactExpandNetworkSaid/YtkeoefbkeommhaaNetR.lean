/-
  A network as a result: programs and links, their rows in blocks of their own; marks, marks read; slices of them that grow. No statement of the seat is proved here.
-/
import Derived.Test.YtkeoefbkeommhaaGrowA
import Derived.Test.YtkeoefbkeommhaaNetLw
import Derived.Test.YtkeoefbkeommhaaStart
namespace Go.Proofs.Ytkeoefbkeommhaa
open Go.RowKit


structure FamI (lo : Nat) (w : World) (fs : List Value) (xss : List (List Ins)) : Prop where
  len : fs.length = xss.length
  own : ∀ (i : Nat) (u : Value) (xs : List Ins), fs[i]? = some u → xss[i]? = some xs → OwnI lo w u xs
  apart : ∀ (i j : Nat) (u u' : Value), fs[i]? = some u → fs[j]? = some u' → i ≠ j → Apart u u'
theorem FamI.below {lo : Nat} {w w' : World} {fs : List Value} {xss : List (List Ins)} (h : FamI lo w fs xss) (hb : Below w.heap.size w w') : FamI lo w' fs xss :=
  ⟨h.len, fun i u xs h1 h2 => (h.own i u xs h1 h2).below hb, h.apart⟩
theorem FamI.get {lo : Nat} {w : World} {fs : List Value} {xss : List (List Ins)} (h : FamI lo w fs xss) {i : Nat} {u : Value} (hu : fs[i]? = some u) : OwnI lo w u (xss.getD i []) := by
  have hi : i < xss.length := by rw [← h.len]; exact (List.getElem?_eq_some_iff.1 hu).1
  rw [List.getD_eq_getElem?_getD, List.getElem?_eq_getElem hi]
  exact h.own i u _ hu (List.getElem?_eq_getElem hi)
theorem FamI.mono {lo lo' : Nat} {w : World} {fs : List Value} {xss : List (List Ins)} (h : FamI lo w fs xss) (hl : lo' ≤ lo) : FamI lo' w fs xss :=
  ⟨h.len, fun i u xs h1 h2 => (h.own i u xs h1 h2).mono hl, h.apart⟩
theorem FamI.upd {lo : Nat} {w w' : World} {fs : List Value} {xss : List (List Ins)} {j : Nat} {u u' : Value} {xs' : List Ins} (h : FamI lo w fs xss) (hj : fs[j]? = some u)
    (hk : ∀ (v : Value) (xs : List Ins), OwnI lo w v xs → Apart v u → OwnI lo w' v xs) (ho : OwnI lo w' u' xs') (hb : u'.ownBlock = u.ownBlock ∨ ∀ k, u'.ownBlock = some k → w.heap.size ≤ k) : FamI lo w' (fs.set j u') (xss.set j xs') := by
  have hjl := (List.getElem?_eq_some_iff.1 hj).1
  have hap : ∀ (i : Nat) (v : Value), fs[i]? = some v → i ≠ j → Apart v u' := by
    intro i v hv hij
    have h1 := h.apart i j v u hv hj hij
    rcases hb with hb | hb
    · unfold Apart at h1 ⊢; rw [hb]; exact h1
    · cases e : v.ownBlock with
      | none => exact .inl e
      | some k =>
        right
        rw [e]
        intro e2
        have := hb k e2.symm
        have := ((h.get hv).lt k e).2
        omega
  refine ⟨by rw [List.length_set, List.length_set]; exact h.len, ?_, ?_⟩
  · intro i v xs hv hx
    rw [List.getElem?_set] at hv hx
    by_cases e : j = i
    · rw [if_pos e, if_pos hjl] at hv
      rw [if_pos e, if_pos (by rw [← h.len]; exact hjl)] at hx
      obtain rfl := Option.some.inj hv
      obtain rfl := Option.some.inj hx
      exact ho
    · rw [if_neg e] at hv hx
      exact hk v xs (h.own i v xs hv hx) (h.apart i j v u hv hj (fun q => e q.symm))
  · intro i i' v v' hv hv' hii
    rw [List.getElem?_set] at hv hv'
    by_cases e : j = i
    · rw [if_pos e, if_pos hjl] at hv
      obtain rfl := Option.some.inj hv
      rw [if_neg (by omega)] at hv'
      have := hap i' v' hv' (by omega)
      rcases this with q | q
      · by_cases q2 : u'.ownBlock = none
        · exact .inl q2
        · right; rw [q]; exact q2
      · by_cases q2 : u'.ownBlock = none
        · exact .inl q2
        · exact .inr (fun e => q e.symm)
    · rw [if_neg e] at hv
      by_cases e' : j = i'
      · rw [if_pos e', if_pos hjl] at hv'
        obtain rfl := Option.some.inj hv'
        exact hap i v hv (by omega)
      · rw [if_neg e'] at hv'
        exact h.apart i i' v v' hv hv' hii
theorem own_blk_neI {lo g T : Nat} {w : World} {u : Value} {xs : List Ins} {cs : Array Value} (h : OwnI lo w u xs) (hg : w.heap[g]? = some (.cells cs T)) (hT : T ≠ 156) : some g ≠ u.ownBlock := by
  rcases h.2 with ⟨rfl, _⟩ | ⟨k, cap, cur, rfl, _, hk, _⟩
  · simp [Value.ownBlock]
  · intro e
    simp [Value.ownBlock] at e
    subst e
    rw [hk] at hg
    simp at hg
    exact hT hg.2.symm
theorem fam_hiI {lo : Nat} {w : World} {us : List Value} {xss : List (List Ins)} (h : FamI lo w us xss) : ∀ x ∈ us, ∀ q, x.ownBlock = some q → q < w.heap.size := by
  intro x hx q e
  obtain ⟨i, hi⟩ := List.getElem?_of_mem hx
  exact ((h.get hi).lt q e).2
theorem own_farI {lo g T : Nat} {w w' : World} {v : Value} {xs : List Ins} {cs : Array Value} (h : OwnI lo w v xs) (hg : w.heap[g]? = some (.cells cs T)) (h2 : T ≠ 156) (hb : ∀ k, k < w.heap.size → k ≠ g → w'.heap[k]? = w.heap[k]?) : OwnI lo w' v xs := by
  refine ⟨h.1, ?_⟩
  rcases h.2 with hn | ⟨q, cap, cur, rfl, hbb, hq, rest⟩
  · exact .inl hn
  · refine .inr ⟨q, cap, cur, rfl, hbb, ?_, rest⟩
    rw [hb q (lt_of hq) (fun e => by subst e; rw [hq] at hg; simp at hg; exact h2 hg.2.symm)]
    exact hq
theorem FamI.snoc {lo : Nat} {w w1 : World} {us : List Value} {xss : List (List Ins)} {x : Value} {xs : List Ins} (h : FamI lo w us xss) (hk : ∀ (u : Value) (ys : List Ins), OwnI lo w u ys → OwnI lo w1 u ys) (ho : OwnI lo w1 x xs) (ha : ∀ u ys, OwnI lo w u ys → u ∈ us → Apart u x) : FamI lo w1 (us ++ [x]) (xss ++ [xs]) := by
  have hl := h.len
  have one : ∀ (α : Type) (l : List α) (y u : α) (i : Nat), (l ++ [y])[i]? = some u → (i < l.length ∧ l[i]? = some u) ∨ (i = l.length ∧ u = y) := by
    intro α l y u i e
    by_cases hi : i < l.length
    · rw [List.getElem?_append_left hi] at e; exact .inl ⟨hi, e⟩
    · rw [List.getElem?_append_right (by omega)] at e
      rcases q : i - l.length with _ | q'
      · rw [q] at e; simp at e; exact .inr ⟨by omega, e.symm⟩
      · rw [q] at e; simp at e
  have get : ∀ i u, us[i]? = some u → OwnI lo w u (xss.getD i []) ∧ u ∈ us := fun i u e => ⟨h.get e, List.mem_of_getElem? e⟩
  refine ⟨by simp [hl], ?_, ?_⟩
  · intro i u ys h1 h2
    rcases one _ _ _ _ _ h1 with ⟨a, b⟩ | ⟨a, rfl⟩
    · rcases one _ _ _ _ _ h2 with ⟨a', b'⟩ | ⟨a', rfl⟩
      · exact hk u ys (h.own i u ys b b')
      · omega
    · rcases one _ _ _ _ _ h2 with ⟨a', b'⟩ | ⟨a', rfl⟩
      · omega
      · exact ho
  · intro i j u u' h1 h2 hij
    rcases one _ _ _ _ _ h1 with ⟨a, b⟩ | ⟨a, rfl⟩
    · rcases one _ _ _ _ _ h2 with ⟨a', b'⟩ | ⟨a', rfl⟩
      · exact h.apart i j u u' b b' hij
      · have q := get i u b; exact ha u _ q.1 q.2
    · rcases one _ _ _ _ _ h2 with ⟨a', b'⟩ | ⟨a', rfl⟩
      · have q := get j u' b'; exact (ha u' _ q.1 q.2).symm
      · omega
theorem own_grownNI {lo lo2 T m sz : Nat} {w w' : World} {v o : Value} {xs : List Ins} {L : List Value} (h : OwnI lo w v xs) (hr : w.ownsRow lo2 T sz o m L) (hT : T ≠ 156) (hg : w.grownBy w' o.ownBlock) : OwnI lo w' v xs := by
  rcases hr.2 with ⟨rfl, _⟩ | ⟨r, cap, cur, rfl, hbb, hq, rest⟩
  · refine ⟨h.1, ?_⟩
    rcases h.2 with hn | ⟨q, cap, cur, rfl, hb, hq, rest⟩
    · exact .inl hn
    · exact .inr ⟨q, cap, cur, rfl, hb, by rw [hg.block q (lt_of hq) (by simp [Value.ownBlock])]; exact hq, rest⟩
  · exact own_farI h hq hT (fun k hk hne => hg.block k hk (by simp only [Value.ownBlock, ne_eq, Option.some.injEq]; exact hne))
theorem grown_keepI {w w' : World} {lo g T : Nat} {u : Value} {xs : List Ins} {cs : Array Value} (h : w.heap[g]? = some (.cells cs T)) (hT : T ≠ 156) (hou : OwnI lo w u xs) (hg : w.grownBy w' u.ownBlock) : w'.heap[g]? = some (.cells cs T) := by
  rw [hg.block g (lt_of h) (own_blk_neI hou h hT)]
  exact h
theorem FamI.row {lo j : Nat} {w w' : World} {x : Value} {us : List Value} {xss : List (List Ins)} {ys : List Ins} (hF : FamI lo w us xss)
    (hx : us[j]? = some x) (hg : w.grownBy w' x.ownBlock) (ho : OwnI lo w' x ys) : FamI lo w' us (xss.set j ys) := by
  have hj := (List.getElem?_eq_some_iff.1 hx).1
  have F := hF.upd (w' := w') hx (fun y ys hy ha => hy.kept hg ha) ho (.inl rfl)
  rwa [show us.set j x = us from by
    apply List.ext_getElem?
    intro i
    rw [List.getElem?_set]
    by_cases e : j = i
    · rw [if_pos e, if_pos hj, ← e, hx]
    · rw [if_neg e]] at F
theorem FamI.out {lo hi l2 h2 : Nat} {w w' : World} {us : List Value} {xss : List (List Ins)} (hF : FamI lo w us xss) (h3 : ∀ x ∈ us, ∀ q, x.ownBlock = some q → q < hi) (ho : Out l2 h2 w w') (hd : hi ≤ l2 ∨ h2 ≤ lo) : FamI lo w' us xss :=
  ⟨hF.len, fun i x xs hx hxs => (hF.own i x xs hx hxs).out (h2 := hi) (h3 x (List.mem_of_getElem? hx)) ho (by omega), hF.apart⟩
theorem FamI.outB {lo B T : Nat} {w w' : World} {us : List Value} {xss : List (List Ins)} {cs : Array Value} (hF : FamI lo w us xss) (hB : w.heap[B]? = some (.cells cs T)) (h1 : T ≠ 156) (ho : Out B (B + 1) w w') : FamI lo w' us xss := by
  refine ⟨hF.len, fun i u xs hu hx => ?_, hF.apart⟩
  have hv := hF.own i u xs hu hx
  refine ⟨hv.1, ?_⟩
  rcases hv.2 with hn | ⟨g, cap, cur, rfl, hbb, hg, rest⟩
  · exact .inl hn
  · exact .inr ⟨g, cap, cur, rfl, hbb, (ho.block g (lt_of hg) (by have : g ≠ B := (fun e => by subst e; rw [hg] at hB; simp at hB; exact h1 hB.2.symm); omega)).trans hg, rest⟩
theorem Fam.setT {lo B T j : Nat} {w : World} {us : List Value} {xss : List (List Int)} (h : Fam lo w us xss) (ht : Typed w B T) (hT : T ≠ 3) (v : Value) : Fam lo (w.setCell ⟨B, j, none⟩ v) us xss := by
  refine ⟨h.len, fun i u xs h1 h2 => ?_, h.apart⟩
  have hv := h.own i u xs h1 h2
  refine ⟨hv.1, ?_⟩
  rcases hv.2 with hn | ⟨q, cap, cur, rfl, hbb, hq, rest⟩
  · exact .inl hn
  · refine .inr ⟨q, cap, cur, rfl, hbb, ?_, rest⟩
    obtain ⟨cs, fr, hB⟩ := ht
    rw [Below.heap_setCell _ _ _ _ (by
      show q ≠ B
      intro e
      subst e
      rw [hq] at hB
      simp at hB
      exact hT hB.2.1.symm)]
    exact hq
theorem FamI.setT {lo B T j : Nat} {w : World} {us : List Value} {xss : List (List Ins)} (h : FamI lo w us xss) (ht : Typed w B T) (hT : T ≠ 156) (v : Value) : FamI lo (w.setCell ⟨B, j, none⟩ v) us xss := by
  refine ⟨h.len, fun i u xs h1 h2 => ?_, h.apart⟩
  have hv := h.own i u xs h1 h2
  refine ⟨hv.1, ?_⟩
  rcases hv.2 with hn | ⟨q, cap, cur, rfl, hbb, hq, rest⟩
  · exact .inl hn
  · refine .inr ⟨q, cap, cur, rfl, hbb, ?_, rest⟩
    obtain ⟨cs, fr, hB⟩ := ht
    rw [Below.heap_setCell _ _ _ _ (by
      show q ≠ B
      intro e
      subst e
      rw [hq] at hB
      simp at hB
      exact hT hB.2.1.symm)]
    exact hq
/-- The slice 'v' holds these and these rows; its block, where it has one, lies from lo on, below hi. -/
def VP (lo hi : Nat) (w : World) (v : Value) (us : List Value) (xs : List Prg) : Prop :=
  (v = .slice none 0 0 ∧ us = [] ∧ xs = []) ∨ ∃ (B cap : Nat) (cur : Array Value), v = .slice (some ⟨B, 0, none⟩) us.length cap ∧ lo ≤ B ∧ B < hi ∧ us.length ≤ cap ∧ cap ≤ maxLen ∧ w.heap[B]? = some (.cells cur 79) ∧ xs.length = us.length ∧
    ∀ i u p, us[i]? = some u → xs[i]? = some p → cur[i * 3]? = some (.int .i64 p.ins) ∧ cur[i * 3 + 1]? = some (.int .i64 p.outs) ∧ cur[i * 3 + 2]? = some u
theorem VP.keep {lo hi : Nat} {w w' : World} {v : Value} {us : List Value} {xs : List Prg} (h : VP lo hi w v us xs) (hk : ∀ (B : Nat) (cur : Array Value), lo ≤ B → B < hi → w.heap[B]? = some (.cells cur 79) → w'.heap[B]? = some (.cells cur 79)) : VP lo hi w' v us xs := by
  rcases h with h | ⟨B, cap, cur, h1, h2, h3, h4, h5, h6, h7⟩
  · exact .inl h
  · exact .inr ⟨B, cap, cur, h1, h2, h3, h4, h5, hk B cur h2 h3 h6, h7⟩
theorem VP.mono {lo hi lo' hi' : Nat} {w : World} {v : Value} {us : List Value} {xs : List Prg} (h : VP lo hi w v us xs) (h1 : lo' ≤ lo) (h2 : hi ≤ hi') : VP lo' hi' w v us xs := by
  rcases h with h | ⟨B, cap, cur, a1, a2, a3, a4⟩
  · exact .inl h
  · exact .inr ⟨B, cap, cur, a1, by omega, by omega, a4⟩
theorem VP.len {lo hi : Nat} {w : World} {v : Value} {us : List Value} {xs : List Prg} (h : VP lo hi w v us xs) : xs.length = us.length := by
  rcases h with ⟨_, rfl, rfl⟩ | ⟨B, cap, cur, _, _, _, _, _, _, h, _⟩
  · rfl
  · exact h
theorem VP.shape {lo hi : Nat} {w : World} {v : Value} {us : List Value} {xs : List Prg} (h : VP lo hi w v us xs) : ∃ a c, v = .slice a xs.length c := by
  have hl := h.len
  rcases h with ⟨rfl, rfl, rfl⟩ | ⟨B, cap, cur, rfl, _⟩
  · exact ⟨none, 0, rfl⟩
  · exact ⟨_, _, by rw [hl]⟩
theorem VP.at {lo hi j : Nat} {w : World} {v u : Value} {us : List Value} {xs : List Prg} {p : Prg} (h : VP lo hi w v us xs) (hu : us[j]? = some u) (hp : xs[j]? = some p) :
    ∃ B c, v = .slice (some ⟨B, 0, none⟩) us.length c ∧ lo ≤ B ∧ B < hi ∧ B < w.heap.size ∧ Typed w B 79 ∧ (∀ q, w.frozen? ⟨B, q, none⟩ = false) ∧ w.cell? ⟨B, j * 3, none⟩ = some (.int .i64 p.ins) ∧ w.cell? ⟨B, j * 3 + 1, none⟩ = some (.int .i64 p.outs) ∧ w.cell? ⟨B, j * 3 + 2, none⟩ = some u := by
  rcases h with ⟨rfl, rfl, _⟩ | ⟨B, cap, cur, rfl, h2, h3, h4, h5, h6, h7, h8⟩
  · simp at hu
  · have z := h8 j u p hu hp
    exact ⟨B, cap, rfl, h2, h3, lt_of h6, ⟨_, _, h6⟩, fun q => fr_of h6 q, (cell_of h6 _).trans z.1, (cell_of h6 _).trans z.2.1, (cell_of h6 _).trans z.2.2⟩
theorem VP.set0 {lo hi B c m j : Nat} {w : World} {us : List Value} {xs : List Prg} {x : Prg} (h : VP lo hi w (.slice (some ⟨B, 0, none⟩) m c) us xs) (hx : xs[j]? = some x) (a : Int) : VP lo hi (w.setCell ⟨B, j * 3, none⟩ (.int .i64 a)) (.slice (some ⟨B, 0, none⟩) m c) us (xs.set j { x with ins := a }) := by
  rcases h with ⟨e, _⟩ | ⟨B', cap, cur, e, h2, h3, h4, h5, h6, h7, h8⟩
  · cases e
  · simp only [Value.slice.injEq, Option.some.injEq, Addr.mk.injEq, and_true] at e
    obtain ⟨rfl, rfl, rfl⟩ := e
    have hj := (List.getElem?_eq_some_iff.1 hx).1
    obtain ⟨u0, hu0⟩ : ∃ u0, us[j]? = some u0 := ⟨_, List.getElem?_eq_getElem (by omega)⟩
    have hq := h8 j u0 x hu0 hx
    have hlt := (Array.getElem?_eq_some_iff.1 hq.1).1
    refine .inr ⟨B, c, _, rfl, h2, h3, h4, h5, heap_setCell_same w B (j * 3) cur 79 (.int .i64 a) h6, by rw [List.length_set]; exact h7, fun i u q hu hq' => ?_⟩
    by_cases e : j = i
    · subst e
      rw [List.getElem?_set, if_pos rfl, if_pos hj] at hq'
      obtain rfl := Option.some.inj hq'
      rw [hu0] at hu
      obtain rfl := Option.some.inj hu
      exact ⟨by rw [Array.getElem?_setIfInBounds, if_pos rfl, if_pos hlt], by rw [Array.getElem?_setIfInBounds, if_neg (by omega)]; exact hq.2.1, by rw [Array.getElem?_setIfInBounds, if_neg (by omega)]; exact hq.2.2⟩
    · rw [List.getElem?_set, if_neg e] at hq'
      have z := h8 i u q hu hq'
      exact ⟨by rw [Array.getElem?_setIfInBounds, if_neg (by omega)]; exact z.1, by rw [Array.getElem?_setIfInBounds, if_neg (by omega)]; exact z.2.1, by rw [Array.getElem?_setIfInBounds, if_neg (by omega)]; exact z.2.2⟩
theorem VP.set1 {lo hi B c m j : Nat} {w : World} {us : List Value} {xs : List Prg} {x : Prg} (h : VP lo hi w (.slice (some ⟨B, 0, none⟩) m c) us xs) (hx : xs[j]? = some x) (a : Int) : VP lo hi (w.setCell ⟨B, j * 3 + 1, none⟩ (.int .i64 a)) (.slice (some ⟨B, 0, none⟩) m c) us (xs.set j { x with outs := a }) := by
  rcases h with ⟨e, _⟩ | ⟨B', cap, cur, e, h2, h3, h4, h5, h6, h7, h8⟩
  · cases e
  · simp only [Value.slice.injEq, Option.some.injEq, Addr.mk.injEq, and_true] at e
    obtain ⟨rfl, rfl, rfl⟩ := e
    have hj := (List.getElem?_eq_some_iff.1 hx).1
    obtain ⟨u0, hu0⟩ : ∃ u0, us[j]? = some u0 := ⟨_, List.getElem?_eq_getElem (by omega)⟩
    have hq := h8 j u0 x hu0 hx
    have hlt := (Array.getElem?_eq_some_iff.1 hq.2.1).1
    refine .inr ⟨B, c, _, rfl, h2, h3, h4, h5, heap_setCell_same w B (j * 3 + 1) cur 79 (.int .i64 a) h6, by rw [List.length_set]; exact h7, fun i u q hu hq' => ?_⟩
    by_cases e : j = i
    · subst e
      rw [List.getElem?_set, if_pos rfl, if_pos hj] at hq'
      obtain rfl := Option.some.inj hq'
      rw [hu0] at hu
      obtain rfl := Option.some.inj hu
      exact ⟨by rw [Array.getElem?_setIfInBounds, if_neg (by omega)]; exact hq.1, by rw [Array.getElem?_setIfInBounds, if_pos rfl, if_pos hlt], by rw [Array.getElem?_setIfInBounds, if_neg (by omega)]; exact hq.2.2⟩
    · rw [List.getElem?_set, if_neg e] at hq'
      have z := h8 i u q hu hq'
      exact ⟨by rw [Array.getElem?_setIfInBounds, if_neg (by omega)]; exact z.1, by rw [Array.getElem?_setIfInBounds, if_neg (by omega)]; exact z.2.1, by rw [Array.getElem?_setIfInBounds, if_neg (by omega)]; exact z.2.2⟩
theorem VP.set2 {lo hi B c m j : Nat} {w : World} {us : List Value} {xs : List Prg} {x : Prg} (h : VP lo hi w (.slice (some ⟨B, 0, none⟩) m c) us xs) (hx : xs[j]? = some x) (u' : Value) : VP lo hi (w.setCell ⟨B, j * 3 + 2, none⟩ u') (.slice (some ⟨B, 0, none⟩) m c) (us.set j u') xs := by
  rcases h with ⟨e, _⟩ | ⟨B', cap, cur, e, h2, h3, h4, h5, h6, h7, h8⟩
  · cases e
  · simp only [Value.slice.injEq, Option.some.injEq, Addr.mk.injEq, and_true] at e
    obtain ⟨rfl, rfl, rfl⟩ := e
    have hj := (List.getElem?_eq_some_iff.1 hx).1
    obtain ⟨u0, hu0⟩ : ∃ u0, us[j]? = some u0 := ⟨_, List.getElem?_eq_getElem (by omega)⟩
    have hq := h8 j u0 x hu0 hx
    have hlt := (Array.getElem?_eq_some_iff.1 hq.2.2).1
    refine .inr ⟨B, c, _, by rw [List.length_set], h2, h3, by rw [List.length_set]; exact h4, h5, heap_setCell_same w B (j * 3 + 2) cur 79 u' h6, by rw [List.length_set]; exact h7, fun i u q hu hq' => ?_⟩
    by_cases e : j = i
    · subst e
      rw [List.getElem?_set, if_pos rfl, if_pos (by omega)] at hu
      obtain rfl := Option.some.inj hu
      rw [hx] at hq'
      obtain rfl := Option.some.inj hq'
      exact ⟨by rw [Array.getElem?_setIfInBounds, if_neg (by omega)]; exact hq.1, by rw [Array.getElem?_setIfInBounds, if_neg (by omega)]; exact hq.2.1, by rw [Array.getElem?_setIfInBounds, if_pos rfl, if_pos hlt]⟩
    · rw [List.getElem?_set, if_neg e] at hu
      have z := h8 i u q hu hq'
      exact ⟨by rw [Array.getElem?_setIfInBounds, if_neg (by omega)]; exact z.1, by rw [Array.getElem?_setIfInBounds, if_neg (by omega)]; exact z.2.1, by rw [Array.getElem?_setIfInBounds, if_neg (by omega)]; exact z.2.2⟩
/-- A slice of these as a result: what it holds lies in blocks from lo on, below hi, no two rows in one. -/
def PrgsR (lo hi : Nat) (w : World) (v : Value) (xs : List Prg) : Prop := ∃ us, VP lo hi w v us xs ∧ FamI lo w us (xs.map Prg.code) ∧ ∀ x ∈ us, ∀ q, x.ownBlock = some q → q < hi
theorem PrgsR.below {lo hi : Nat} {w w' : World} {v : Value} {xs : List Prg} (h : PrgsR lo hi w v xs) (hb : Below w.heap.size w w') : PrgsR lo hi w' v xs := by
  obtain ⟨us, h1, h2, h3⟩ := h
  exact ⟨us, h1.keep (fun B cur _ _ q => blk_in q hb), h2.below hb, h3⟩
theorem PrgsR.out {lo hi l2 h2 : Nat} {w w' : World} {v : Value} {xs : List Prg} (h : PrgsR lo hi w v xs) (ho : Out l2 h2 w w') (hd : hi ≤ l2 ∨ h2 ≤ lo) : PrgsR lo hi w' v xs := by
  obtain ⟨us, h1, hF, h3⟩ := h
  exact ⟨us, h1.keep (fun B cur a b q => ho.blk q (by omega)), hF.out h3 ho hd, h3⟩
theorem PrgsR.mono {lo hi lo' hi' : Nat} {w : World} {v : Value} {xs : List Prg} (h : PrgsR lo hi w v xs) (h1 : lo' ≤ lo) (h2 : hi ≤ hi') : PrgsR lo' hi' w v xs := by
  obtain ⟨us, a, hF, h3⟩ := h
  exact ⟨us, a.mono h1 h2, hF.mono h1, fun x hx q e => Nat.lt_of_lt_of_le (h3 x hx q e) h2⟩
theorem PrgsR.outT {lo hi T1 T2 l2 h2 : Nat} {w w' : World} {v : Value} {xs : List Prg} (h : PrgsR lo hi w v xs) (ho : OutT T1 T2 l2 h2 w w') (n1 : 79 ≠ T1) (n2 : 79 ≠ T2) (n3 : 156 ≠ T1) (n4 : 156 ≠ T2) : PrgsR lo hi w' v xs := by
  obtain ⟨us, h1, hF, h3⟩ := h
  exact ⟨us, h1.keep (fun B cur _ _ q => (ho.ty B _ ⟨_, _, q⟩ n1 n2).trans q), ⟨hF.len, fun i x xs hx hxs => row_outT (hF.own i x xs hx hxs) ho n3 n4, hF.apart⟩, h3⟩
theorem PrgsR.outB {lo hi B T : Nat} {w w' : World} {v : Value} {xs : List Prg} {cs : Array Value} (h : PrgsR lo hi w v xs) (hB : w.heap[B]? = some (.cells cs T)) (h1 : T ≠ 156) (h2 : T ≠ 79) (ho : Out B (B + 1) w w') : PrgsR lo hi w' v xs := by
  obtain ⟨us, hv, hF, hh⟩ := h
  exact ⟨us, hv.keep (fun k cur _ _ hk => (ho.block k (lt_of hk) (by have : k ≠ B := (fun e => by subst e; rw [hk] at hB; simp at hB; exact h2 hB.2.symm); omega)).trans hk), hF.outB hB h1 ho, hh⟩
theorem PrgsR.v {lo hi : Nat} {w : World} {v : Value} {xs : List Prg} (h : PrgsR lo hi w v xs) : SlP w v xs := by
  obtain ⟨us, h1, hF, h3⟩ := h
  have hl := h1.len
  rcases h1 with ⟨rfl, rfl, rfl⟩ | ⟨B, cap, cur, rfl, a2, a3, a4, a5, a6, a7, a8⟩
  · exact ⟨none, 0, rfl, Nat.le_refl _, by simp, fun _ => rfl, .inl rfl⟩
  · refine ⟨_, cap, by rw [hl], by omega, a5, (fun e => by cases e), .inr ⟨B, 0, rfl, lt_of a6, fun i x hx => ?_⟩⟩
    have hi := (List.getElem?_eq_some_iff.1 hx).1
    obtain ⟨u, hu⟩ : ∃ u, us[i]? = some u := ⟨_, List.getElem?_eq_getElem (by omega)⟩
    have z := a8 i u x hu hx
    simp only [Nat.zero_add]
    exact ⟨u, (cell_of a6 _).trans z.1, (cell_of a6 _).trans z.2.1, (cell_of a6 _).trans z.2.2, (hF.own i u x.code hu (by rw [List.getElem?_map, hx]; rfl)).sl⟩
theorem PrgsR.shape {lo hi : Nat} {w : World} {v : Value} {xs : List Prg} (h : PrgsR lo hi w v xs) : ∃ a c, v = .slice a xs.length c := by
  obtain ⟨us, h1, _⟩ := h
  exact h1.shape
theorem PrgsR.nil (lo hi : Nat) (w : World) : PrgsR lo hi w (.slice none 0 0) [] := ⟨[], .inl ⟨rfl, rfl, rfl⟩, ⟨rfl, fun i u x h => by simp at h, fun i j u v h => by simp at h⟩, fun x h => by simp at h⟩
/-- What the row beside holds is no part of it. -/
theorem VP.row {lo hi j : Nat} {w : World} {v : Value} {us : List Value} {xs : List Prg} {x y : Prg} (h : VP lo hi w v us (xs.set j x)) (hj : (xs.set j x)[j]? = some x) (he : x.ins = y.ins ∧ x.outs = y.outs) : VP lo hi w v us (xs.set j y) := by
  have hjl := (List.getElem?_eq_some_iff.1 hj).1
  rw [List.length_set] at hjl
  rcases h with ⟨_, _, e⟩ | ⟨B, cap, cur, h1, h2, h3, h4, h5, h6, h7, h8⟩
  · exfalso
    have h0 : xs.length = 0 := by have := congrArg List.length e; rwa [List.length_set] at this
    omega
  · rw [List.length_set] at h7
    refine .inr ⟨B, cap, cur, h1, h2, h3, h4, h5, h6, by rw [List.length_set]; exact h7, fun i u p hu hp => ?_⟩
    rw [List.getElem?_set] at hp
    by_cases e : j = i
    · subst e
      rw [if_pos rfl, if_pos hjl] at hp
      obtain rfl := Option.some.inj hp
      have z := h8 j u x hu hj
      exact ⟨by rw [← he.1]; exact z.1, by rw [← he.2]; exact z.2.1, z.2.2⟩
    · rw [if_neg e] at hp
      exact h8 i u p hu (by rw [List.getElem?_set, if_neg e]; exact hp)

set_option maxRecDepth 100000 in
set_option maxHeartbeats 4000000 in
theorem markP_r (lo hi : Nat) (v : Value) (xs : List Prg) (k : Int) (w : World) (h : PrgsR lo hi w v xs) (hk0 : 0 ≤ k) (hk : k + ((xs.map stP).sum : Nat) ≤ 1000000000) :
    Calls Try.prog 56 #[v, .int .i64 k] w fun e w' => e = .returned (.int .i64 (k + ((xs.map stP).sum : Nat))) ∧ PrgsR lo hi w' v (mkAll stP mkP k xs) ∧ OutT 79 156 lo hi w w' := by
  obtain ⟨us, hv, hF, h3⟩ := h
  have hl := hv.len
  obtain ⟨m, hmm⟩ : ∃ m, m = us.length := ⟨_, rfl⟩
  obtain ⟨s, hs⟩ : ∃ s : Nat, s = (xs.map stP).sum := ⟨_, rfl⟩
  rw [← hs] at hk ⊢
  have HS := Lib.hid hs
  have hm9 : m ≤ 1000000000 := by have := len_le_sum (st := stP) (fun x => by unfold stP; omega) xs; omega
  obtain ⟨va, vc, hve⟩ := hv.shape
  rw [show xs.length = m by omega] at hve
  subst hve
  have HV0 := Lib.hid (show VP lo hi w (.slice va m vc) us (mkT stP mkP k xs 0) by rw [mkT_zero]; exact hv)
  have HF0 := Lib.hid (show FamI lo w us ((mkT stP mkP k xs 0).map Prg.code) by rw [mkT_zero]; exact hF)
  have HM := Lib.hid (show us.length = m from hmm.symm)
  have HX := Lib.hid (show xs.length = m by omega)
  have H3 := Lib.hid h3
  clear hs hv hF h3 hl hmm
  go_enter Try.func56, Try.ntmps56
  go_wp2_with fail
  go_loopw [1, 5] (fun t i wr => ∃ (j : Nat) (z : Int), j ≤ m ∧ i = .int .i64 j ∧ t = .int .i64 z ∧ Hid (z = k + (((xs.take j).map stP).sum : Nat)) ∧ Hid (VP lo hi wr (.slice va m vc) us (mkT stP mkP k xs j)) ∧ Hid (FamI lo wr us ((mkT stP mkP k xs j).map Prg.code)) ∧ Hid (OutT 79 156 lo hi w wr)) (fun _ i _ => m - (intOf i).toNat)
  case atStart => exact ⟨0, k, Nat.zero_le _, rfl, rfl, Lib.hid (by simp), HV0, HF0, Lib.hid (OutT.refl _ _ _ _ _)⟩
  case round =>
    clear HV0 HF0
    obtain ⟨j, z, hj, rfl, rfl, HZ, HV, HF, HO⟩ := hrel
    by_cases hlt : j < m
    · obtain ⟨x, hx⟩ : ∃ x, xs[j]? = some x := ⟨_, List.getElem?_eq_getElem (by rw [HX.out]; exact hlt)⟩
      obtain ⟨c, hc⟩ : ∃ c, us[j]? = some c := ⟨_, List.getElem?_eq_getElem (by rw [HM.out]; exact hlt)⟩
      have hst := mk_sum_step (st := stP) hx
      have hle := mk_sum_take_le (st := stP) xs (j + 1)
      rw [hst, ← HS.out] at hle
      obtain ⟨un, hun⟩ : ∃ q, q = x.code.length := ⟨_, rfl⟩
      have hzb : 0 ≤ z ∧ z + 2 + 4 * (un : Int) ≤ 1000000000 := by have := HZ.out; have hh : stP x = 2 + 4 * x.code.length := rfl; rw [hh, ← hun] at hle; omega
      have hat := mkT_at (st := stP) (mk := mkP) (k := k) hx
      have hjl : j < (mkT stP mkP k xs j).length := (List.getElem?_eq_some_iff.1 hat).1
      obtain ⟨B, vc', hve, hB1, hB2, hBl, hBT, hfr, c0, c1, c2⟩ := HV.out.at hc hat
      rw [HM.out] at hve
      simp only [Value.slice.injEq, true_and] at hve
      obtain ⟨rfl, rfl⟩ := hve
      have v1 := HV.out.set0 (hat) (z)
      have v2 := v1.set1 ((List.getElem?_set_self (by first | exact hjl | (simp only [List.length_set]; exact hjl)))) (z + 1)
      have F1 := HF.out.setT (j := j * 3) hBT (by decide) (.int .i64 (z))
      have F2 := F1.setT (j := j * 3 + 1) (hBT.setCell _ _) (by decide) (.int .i64 (z + 1))
      have HV2 := Lib.hid v2
      have HF2 := Lib.hid F2
      have HC := Lib.hid hc
      have HXX := Lib.hid hx
      have HST := Lib.hid hst
      have HUN := Lib.hid hun
      have HBT := Lib.hid hBT
      have HBB := Lib.hid (And.intro hB1 hB2)
      have HJL := Lib.hid hjl
      have ho2 := HF2.out.own j c x.code hc (by rw [List.getElem?_map, hat]; rfl)
      have HOW2 := Lib.hid ho2
      obtain ⟨ca, cc, rfl⟩ := ho2.shape
      rw [← hun] at c2
      have f0 := hfr (j * 3); have f1 := hfr (j * 3 + 1); have f2 := hfr (j * 3 + 2)
      clear hc hx hst hle hun hat hjl hB1 hB2 hBT hfr ho2 v1 v2 F1 F2
      go_wp2_with (go_at_call 122; refine (markInsS_any lo _ x.code (z + 1 + 1) _ (by rw [HUN.out]; exact HOW2.out) (by omega) (by omega) (by have := HUN.out; omega)).mono ?_; rintro e w2 ⟨rfl, ho2, hg2⟩; have HG2 := Lib.hid hg2; have HO2 := Lib.hid ho2; rw [← HUN.out]; clear ho2 hg2)
      go_roundw
      case rel =>
        have hzz := HZ.out
        have hst := HST.out
        have hun := HUN.out
        have hh : stP x = 2 + 4 * x.code.length := rfl
        have hg2 := HG2.out
        have ho2 := HO2.out
        rw [HUN.out] at hg2 ho2
        have q1 := HF2.out.row HC.out hg2 ho2
        have q2 := HV2.out.keep (w' := w2) (fun B' cur' _ _ q => grown_keepI q (by decide) HOW2.out hg2)
        have e := mkT_step (st := stP) (mk := mkP) (k := k) HXX.out
        rw [← hzz] at e
        refine ⟨j + 1, z + 1 + 1 + 4 * (un : Int), by omega, by go_num, rfl, Lib.hid (by rw [hst, hh, ← hun]; omega), Lib.hid ?_, Lib.hid ?_, Lib.hid ?_⟩
        · rw [← e]
          simp only [List.set_set] at q2
          exact VP.row q2 (by rw [List.getElem?_set_self HJL.out]) ⟨rfl, rfl⟩
        · rw [← e, List.map_set]
          exact q1
        · exact ((HO.out.setC (p := ⟨B, j * 3, none⟩) HBB.out.1 HBB.out.2 HBT.out (.int .i64 (z))).setC (p := ⟨B, j * 3 + 1, none⟩) HBB.out.1 HBB.out.2 (HBT.out.setCell _ _) (.int .i64 (z + 1))).grown hg2 (fun q e => ⟨(HOW2.out.lt q e).1, H3.out _ (List.mem_of_getElem? HC.out) q e, row_typed HOW2.out q e⟩)
      case measure => simp [intOf]; omega
    · obtain rfl : j = m := by omega
      have hz := HZ.out
      have hp := HF.out
      have hq := HV.out
      rw [← HX.out, List.take_length, ← HS.out] at hz
      have e := mkT_all (st := stP) (mk := mkP) k xs
      rw [HX.out] at e
      rw [e] at hp hq
      subst hz
      go_wp2_with fail
      go_ret
      exact ⟨rfl, ⟨us, hq, hp, H3.out⟩, HO.out⟩


set_option maxRecDepth 100000 in
set_option maxHeartbeats 1600000 in
theorem heldP_r (v : Value) (xs : List Prg) (k : Int) (w : World) (h : SlP w v (mkAll stP mkP k xs)) (hk0 : 0 ≤ k) (hk : k + ((xs.map stP).sum : Nat) ≤ 1000000000) :
    Calls Try.prog 58 #[v, .int .i64 k] w fun e w' => e = .returned (.int .i64 (k + ((xs.map stP).sum : Nat))) ∧ w = w' := by
  obtain ⟨a, cap, rfl, _, _, _, hc⟩ := h
  rw [mkAll_len]
  obtain ⟨m, hmm⟩ : ∃ m, m = xs.length := ⟨_, rfl⟩
  obtain ⟨s, hs⟩ : ∃ s : Nat, s = (xs.map stP).sum := ⟨_, rfl⟩
  rw [← hs] at hk ⊢
  have hm : m ≤ 1000000000 := by have := len_le_sum (st := stP) (fun x => by unfold stP; omega) xs; omega
  rw [← hmm]
  have HM := Lib.hid (show xs.length = m from hmm.symm)
  have HS := Lib.hid hs
  have HC := Lib.hid hc
  clear hs hmm hc
  go_enter Try.func58, Try.ntmps58
  go_wp2_with fail
  go_loop [1, 5] (fun t i => ∃ (j : Nat) (z : Int), j ≤ m ∧ i = .int .i64 j ∧ t = .int .i64 z ∧ Hid (z = k + (((xs.take j).map stP).sum : Nat))) (fun _ i => m - (intOf i).toNat)
  case atStart => exact ⟨0, k, Nat.zero_le _, rfl, rfl, Lib.hid (by simp)⟩
  case round =>
    obtain ⟨j, z, hj, rfl, rfl, HZ⟩ := hrel
    by_cases hlt : j < m
    · obtain ⟨x, hx⟩ : ∃ x, xs[j]? = some x := ⟨_, List.getElem?_eq_getElem (by rw [HM.out]; exact hlt)⟩
      have hst := mk_sum_step (st := stP) hx
      have hle := mk_sum_take_le (st := stP) xs (j + 1)
      rw [hst, ← HS.out] at hle
      have hmk : (mkAll stP mkP k xs)[j]? = some (mkP z x) := by
        rw [mkAll_at k xs j x hx, ← HZ.out]
      obtain ⟨un, hun⟩ : ∃ q, q = x.code.length := ⟨_, rfl⟩
      have hzb : 0 ≤ z ∧ z + 2 + 4 * (un : Int) ≤ 1000000000 := by have := HZ.out; have hh : stP x = 2 + 4 * x.code.length := rfl; rw [hh, ← hun] at hle; omega
      have hcell : ∃ b off u, a = some ⟨b, off, none⟩ ∧ w.cell? ⟨b, off + j * 3, none⟩ = some (.int .i64 (z)) ∧ w.cell? ⟨b, off + j * 3 + 1, none⟩ = some (.int .i64 (z + 1)) ∧ w.cell? ⟨b, off + j * 3 + 2, none⟩ = some u ∧ SlI w u (marksI (z + 1 + 1) un) := by
        rcases HC.out with e | ⟨b, off, e, _, hcc⟩
        · exfalso
          rw [e] at hmk
          simp at hmk
        · obtain ⟨u, h0, h1, hu, hlast⟩ := hcc j _ hmk
          exact ⟨b, off, u, e, h0, h1, hu, by rw [hun]; exact hlast⟩
      obtain ⟨b, off, u, rfl, z0, z1, hcl, hsl⟩ := hcell
      have HSL := Lib.hid hsl
      have HST := Lib.hid hst
      have HN := Lib.hid hun
      clear hx hst hle hmk hun hsl
      go_wp2_with (go_at_call 123; refine (heldInsS_any _ (z + 1 + 1) un _ HSL.out (by omega) (by omega) (by omega)).mono ?_; rintro e w2 ⟨rfl, rfl⟩)
      go_round
      case rel =>
        have hzz := HZ.out
        have hst := HST.out
        exact ⟨j + 1, z + 1 + 1 + 4 * (un : Int), by omega, by go_num, rfl, Lib.hid (by rw [hst, show stP x = 2 + 4 * x.code.length from rfl, ← HN.out]; omega)⟩
      case measure => simp [intOf]; omega
    · obtain rfl : j = m := by omega
      have hz := HZ.out
      rw [← HM.out, List.take_length, ← HS.out] at hz
      subst hz
      go_wp2_with fail
      go_ret
      exact ⟨rfl, rfl⟩

/-- The slice 'v' holds these and these rows; its block, where it has one, lies from lo on, below hi. -/
def VL (lo hi : Nat) (w : World) (v : Value) (us : List Value) (xs : List Lnk) : Prop :=
  (v = .slice none 0 0 ∧ us = [] ∧ xs = []) ∨ ∃ (B cap : Nat) (cur : Array Value), v = .slice (some ⟨B, 0, none⟩) us.length cap ∧ lo ≤ B ∧ B < hi ∧ us.length ≤ cap ∧ cap ≤ maxLen ∧ w.heap[B]? = some (.cells cur 68) ∧ xs.length = us.length ∧
    ∀ i u p, us[i]? = some u → xs[i]? = some p → cur[i * 5]? = some (.int .i64 p.frm) ∧ cur[i * 5 + 1]? = some (.int .i64 p.out) ∧ cur[i * 5 + 2]? = some (.int .i64 p.to) ∧ cur[i * 5 + 3]? = some (.int .i64 p.inn) ∧ cur[i * 5 + 4]? = some u
theorem VL.keep {lo hi : Nat} {w w' : World} {v : Value} {us : List Value} {xs : List Lnk} (h : VL lo hi w v us xs) (hk : ∀ (B : Nat) (cur : Array Value), lo ≤ B → B < hi → w.heap[B]? = some (.cells cur 68) → w'.heap[B]? = some (.cells cur 68)) : VL lo hi w' v us xs := by
  rcases h with h | ⟨B, cap, cur, h1, h2, h3, h4, h5, h6, h7⟩
  · exact .inl h
  · exact .inr ⟨B, cap, cur, h1, h2, h3, h4, h5, hk B cur h2 h3 h6, h7⟩
theorem VL.mono {lo hi lo' hi' : Nat} {w : World} {v : Value} {us : List Value} {xs : List Lnk} (h : VL lo hi w v us xs) (h1 : lo' ≤ lo) (h2 : hi ≤ hi') : VL lo' hi' w v us xs := by
  rcases h with h | ⟨B, cap, cur, a1, a2, a3, a4⟩
  · exact .inl h
  · exact .inr ⟨B, cap, cur, a1, by omega, by omega, a4⟩
theorem VL.len {lo hi : Nat} {w : World} {v : Value} {us : List Value} {xs : List Lnk} (h : VL lo hi w v us xs) : xs.length = us.length := by
  rcases h with ⟨_, rfl, rfl⟩ | ⟨B, cap, cur, _, _, _, _, _, _, h, _⟩
  · rfl
  · exact h
theorem VL.shape {lo hi : Nat} {w : World} {v : Value} {us : List Value} {xs : List Lnk} (h : VL lo hi w v us xs) : ∃ a c, v = .slice a xs.length c := by
  have hl := h.len
  rcases h with ⟨rfl, rfl, rfl⟩ | ⟨B, cap, cur, rfl, _⟩
  · exact ⟨none, 0, rfl⟩
  · exact ⟨_, _, by rw [hl]⟩
theorem VL.at {lo hi j : Nat} {w : World} {v u : Value} {us : List Value} {xs : List Lnk} {p : Lnk} (h : VL lo hi w v us xs) (hu : us[j]? = some u) (hp : xs[j]? = some p) :
    ∃ B c, v = .slice (some ⟨B, 0, none⟩) us.length c ∧ lo ≤ B ∧ B < hi ∧ B < w.heap.size ∧ Typed w B 68 ∧ (∀ q, w.frozen? ⟨B, q, none⟩ = false) ∧ w.cell? ⟨B, j * 5, none⟩ = some (.int .i64 p.frm) ∧ w.cell? ⟨B, j * 5 + 1, none⟩ = some (.int .i64 p.out) ∧ w.cell? ⟨B, j * 5 + 2, none⟩ = some (.int .i64 p.to) ∧ w.cell? ⟨B, j * 5 + 3, none⟩ = some (.int .i64 p.inn) ∧ w.cell? ⟨B, j * 5 + 4, none⟩ = some u := by
  rcases h with ⟨rfl, rfl, _⟩ | ⟨B, cap, cur, rfl, h2, h3, h4, h5, h6, h7, h8⟩
  · simp at hu
  · have z := h8 j u p hu hp
    exact ⟨B, cap, rfl, h2, h3, lt_of h6, ⟨_, _, h6⟩, fun q => fr_of h6 q, (cell_of h6 _).trans z.1, (cell_of h6 _).trans z.2.1, (cell_of h6 _).trans z.2.2.1, (cell_of h6 _).trans z.2.2.2.1, (cell_of h6 _).trans z.2.2.2.2⟩
theorem VL.set0 {lo hi B c m j : Nat} {w : World} {us : List Value} {xs : List Lnk} {x : Lnk} (h : VL lo hi w (.slice (some ⟨B, 0, none⟩) m c) us xs) (hx : xs[j]? = some x) (a : Int) : VL lo hi (w.setCell ⟨B, j * 5, none⟩ (.int .i64 a)) (.slice (some ⟨B, 0, none⟩) m c) us (xs.set j { x with frm := a }) := by
  rcases h with ⟨e, _⟩ | ⟨B', cap, cur, e, h2, h3, h4, h5, h6, h7, h8⟩
  · cases e
  · simp only [Value.slice.injEq, Option.some.injEq, Addr.mk.injEq, and_true] at e
    obtain ⟨rfl, rfl, rfl⟩ := e
    have hj := (List.getElem?_eq_some_iff.1 hx).1
    obtain ⟨u0, hu0⟩ : ∃ u0, us[j]? = some u0 := ⟨_, List.getElem?_eq_getElem (by omega)⟩
    have hq := h8 j u0 x hu0 hx
    have hlt := (Array.getElem?_eq_some_iff.1 hq.1).1
    refine .inr ⟨B, c, _, rfl, h2, h3, h4, h5, heap_setCell_same w B (j * 5) cur 68 (.int .i64 a) h6, by rw [List.length_set]; exact h7, fun i u q hu hq' => ?_⟩
    by_cases e : j = i
    · subst e
      rw [List.getElem?_set, if_pos rfl, if_pos hj] at hq'
      obtain rfl := Option.some.inj hq'
      rw [hu0] at hu
      obtain rfl := Option.some.inj hu
      exact ⟨by rw [Array.getElem?_setIfInBounds, if_pos rfl, if_pos hlt], by rw [Array.getElem?_setIfInBounds, if_neg (by omega)]; exact hq.2.1, by rw [Array.getElem?_setIfInBounds, if_neg (by omega)]; exact hq.2.2.1, by rw [Array.getElem?_setIfInBounds, if_neg (by omega)]; exact hq.2.2.2.1, by rw [Array.getElem?_setIfInBounds, if_neg (by omega)]; exact hq.2.2.2.2⟩
    · rw [List.getElem?_set, if_neg e] at hq'
      have z := h8 i u q hu hq'
      exact ⟨by rw [Array.getElem?_setIfInBounds, if_neg (by omega)]; exact z.1, by rw [Array.getElem?_setIfInBounds, if_neg (by omega)]; exact z.2.1, by rw [Array.getElem?_setIfInBounds, if_neg (by omega)]; exact z.2.2.1, by rw [Array.getElem?_setIfInBounds, if_neg (by omega)]; exact z.2.2.2.1, by rw [Array.getElem?_setIfInBounds, if_neg (by omega)]; exact z.2.2.2.2⟩
theorem VL.set1 {lo hi B c m j : Nat} {w : World} {us : List Value} {xs : List Lnk} {x : Lnk} (h : VL lo hi w (.slice (some ⟨B, 0, none⟩) m c) us xs) (hx : xs[j]? = some x) (a : Int) : VL lo hi (w.setCell ⟨B, j * 5 + 1, none⟩ (.int .i64 a)) (.slice (some ⟨B, 0, none⟩) m c) us (xs.set j { x with out := a }) := by
  rcases h with ⟨e, _⟩ | ⟨B', cap, cur, e, h2, h3, h4, h5, h6, h7, h8⟩
  · cases e
  · simp only [Value.slice.injEq, Option.some.injEq, Addr.mk.injEq, and_true] at e
    obtain ⟨rfl, rfl, rfl⟩ := e
    have hj := (List.getElem?_eq_some_iff.1 hx).1
    obtain ⟨u0, hu0⟩ : ∃ u0, us[j]? = some u0 := ⟨_, List.getElem?_eq_getElem (by omega)⟩
    have hq := h8 j u0 x hu0 hx
    have hlt := (Array.getElem?_eq_some_iff.1 hq.2.1).1
    refine .inr ⟨B, c, _, rfl, h2, h3, h4, h5, heap_setCell_same w B (j * 5 + 1) cur 68 (.int .i64 a) h6, by rw [List.length_set]; exact h7, fun i u q hu hq' => ?_⟩
    by_cases e : j = i
    · subst e
      rw [List.getElem?_set, if_pos rfl, if_pos hj] at hq'
      obtain rfl := Option.some.inj hq'
      rw [hu0] at hu
      obtain rfl := Option.some.inj hu
      exact ⟨by rw [Array.getElem?_setIfInBounds, if_neg (by omega)]; exact hq.1, by rw [Array.getElem?_setIfInBounds, if_pos rfl, if_pos hlt], by rw [Array.getElem?_setIfInBounds, if_neg (by omega)]; exact hq.2.2.1, by rw [Array.getElem?_setIfInBounds, if_neg (by omega)]; exact hq.2.2.2.1, by rw [Array.getElem?_setIfInBounds, if_neg (by omega)]; exact hq.2.2.2.2⟩
    · rw [List.getElem?_set, if_neg e] at hq'
      have z := h8 i u q hu hq'
      exact ⟨by rw [Array.getElem?_setIfInBounds, if_neg (by omega)]; exact z.1, by rw [Array.getElem?_setIfInBounds, if_neg (by omega)]; exact z.2.1, by rw [Array.getElem?_setIfInBounds, if_neg (by omega)]; exact z.2.2.1, by rw [Array.getElem?_setIfInBounds, if_neg (by omega)]; exact z.2.2.2.1, by rw [Array.getElem?_setIfInBounds, if_neg (by omega)]; exact z.2.2.2.2⟩
theorem VL.set2 {lo hi B c m j : Nat} {w : World} {us : List Value} {xs : List Lnk} {x : Lnk} (h : VL lo hi w (.slice (some ⟨B, 0, none⟩) m c) us xs) (hx : xs[j]? = some x) (a : Int) : VL lo hi (w.setCell ⟨B, j * 5 + 2, none⟩ (.int .i64 a)) (.slice (some ⟨B, 0, none⟩) m c) us (xs.set j { x with «to» := a }) := by
  rcases h with ⟨e, _⟩ | ⟨B', cap, cur, e, h2, h3, h4, h5, h6, h7, h8⟩
  · cases e
  · simp only [Value.slice.injEq, Option.some.injEq, Addr.mk.injEq, and_true] at e
    obtain ⟨rfl, rfl, rfl⟩ := e
    have hj := (List.getElem?_eq_some_iff.1 hx).1
    obtain ⟨u0, hu0⟩ : ∃ u0, us[j]? = some u0 := ⟨_, List.getElem?_eq_getElem (by omega)⟩
    have hq := h8 j u0 x hu0 hx
    have hlt := (Array.getElem?_eq_some_iff.1 hq.2.2.1).1
    refine .inr ⟨B, c, _, rfl, h2, h3, h4, h5, heap_setCell_same w B (j * 5 + 2) cur 68 (.int .i64 a) h6, by rw [List.length_set]; exact h7, fun i u q hu hq' => ?_⟩
    by_cases e : j = i
    · subst e
      rw [List.getElem?_set, if_pos rfl, if_pos hj] at hq'
      obtain rfl := Option.some.inj hq'
      rw [hu0] at hu
      obtain rfl := Option.some.inj hu
      exact ⟨by rw [Array.getElem?_setIfInBounds, if_neg (by omega)]; exact hq.1, by rw [Array.getElem?_setIfInBounds, if_neg (by omega)]; exact hq.2.1, by rw [Array.getElem?_setIfInBounds, if_pos rfl, if_pos hlt], by rw [Array.getElem?_setIfInBounds, if_neg (by omega)]; exact hq.2.2.2.1, by rw [Array.getElem?_setIfInBounds, if_neg (by omega)]; exact hq.2.2.2.2⟩
    · rw [List.getElem?_set, if_neg e] at hq'
      have z := h8 i u q hu hq'
      exact ⟨by rw [Array.getElem?_setIfInBounds, if_neg (by omega)]; exact z.1, by rw [Array.getElem?_setIfInBounds, if_neg (by omega)]; exact z.2.1, by rw [Array.getElem?_setIfInBounds, if_neg (by omega)]; exact z.2.2.1, by rw [Array.getElem?_setIfInBounds, if_neg (by omega)]; exact z.2.2.2.1, by rw [Array.getElem?_setIfInBounds, if_neg (by omega)]; exact z.2.2.2.2⟩
theorem VL.set3 {lo hi B c m j : Nat} {w : World} {us : List Value} {xs : List Lnk} {x : Lnk} (h : VL lo hi w (.slice (some ⟨B, 0, none⟩) m c) us xs) (hx : xs[j]? = some x) (a : Int) : VL lo hi (w.setCell ⟨B, j * 5 + 3, none⟩ (.int .i64 a)) (.slice (some ⟨B, 0, none⟩) m c) us (xs.set j { x with inn := a }) := by
  rcases h with ⟨e, _⟩ | ⟨B', cap, cur, e, h2, h3, h4, h5, h6, h7, h8⟩
  · cases e
  · simp only [Value.slice.injEq, Option.some.injEq, Addr.mk.injEq, and_true] at e
    obtain ⟨rfl, rfl, rfl⟩ := e
    have hj := (List.getElem?_eq_some_iff.1 hx).1
    obtain ⟨u0, hu0⟩ : ∃ u0, us[j]? = some u0 := ⟨_, List.getElem?_eq_getElem (by omega)⟩
    have hq := h8 j u0 x hu0 hx
    have hlt := (Array.getElem?_eq_some_iff.1 hq.2.2.2.1).1
    refine .inr ⟨B, c, _, rfl, h2, h3, h4, h5, heap_setCell_same w B (j * 5 + 3) cur 68 (.int .i64 a) h6, by rw [List.length_set]; exact h7, fun i u q hu hq' => ?_⟩
    by_cases e : j = i
    · subst e
      rw [List.getElem?_set, if_pos rfl, if_pos hj] at hq'
      obtain rfl := Option.some.inj hq'
      rw [hu0] at hu
      obtain rfl := Option.some.inj hu
      exact ⟨by rw [Array.getElem?_setIfInBounds, if_neg (by omega)]; exact hq.1, by rw [Array.getElem?_setIfInBounds, if_neg (by omega)]; exact hq.2.1, by rw [Array.getElem?_setIfInBounds, if_neg (by omega)]; exact hq.2.2.1, by rw [Array.getElem?_setIfInBounds, if_pos rfl, if_pos hlt], by rw [Array.getElem?_setIfInBounds, if_neg (by omega)]; exact hq.2.2.2.2⟩
    · rw [List.getElem?_set, if_neg e] at hq'
      have z := h8 i u q hu hq'
      exact ⟨by rw [Array.getElem?_setIfInBounds, if_neg (by omega)]; exact z.1, by rw [Array.getElem?_setIfInBounds, if_neg (by omega)]; exact z.2.1, by rw [Array.getElem?_setIfInBounds, if_neg (by omega)]; exact z.2.2.1, by rw [Array.getElem?_setIfInBounds, if_neg (by omega)]; exact z.2.2.2.1, by rw [Array.getElem?_setIfInBounds, if_neg (by omega)]; exact z.2.2.2.2⟩
theorem VL.set4 {lo hi B c m j : Nat} {w : World} {us : List Value} {xs : List Lnk} {x : Lnk} (h : VL lo hi w (.slice (some ⟨B, 0, none⟩) m c) us xs) (hx : xs[j]? = some x) (u' : Value) : VL lo hi (w.setCell ⟨B, j * 5 + 4, none⟩ u') (.slice (some ⟨B, 0, none⟩) m c) (us.set j u') xs := by
  rcases h with ⟨e, _⟩ | ⟨B', cap, cur, e, h2, h3, h4, h5, h6, h7, h8⟩
  · cases e
  · simp only [Value.slice.injEq, Option.some.injEq, Addr.mk.injEq, and_true] at e
    obtain ⟨rfl, rfl, rfl⟩ := e
    have hj := (List.getElem?_eq_some_iff.1 hx).1
    obtain ⟨u0, hu0⟩ : ∃ u0, us[j]? = some u0 := ⟨_, List.getElem?_eq_getElem (by omega)⟩
    have hq := h8 j u0 x hu0 hx
    have hlt := (Array.getElem?_eq_some_iff.1 hq.2.2.2.2).1
    refine .inr ⟨B, c, _, by rw [List.length_set], h2, h3, by rw [List.length_set]; exact h4, h5, heap_setCell_same w B (j * 5 + 4) cur 68 u' h6, by rw [List.length_set]; exact h7, fun i u q hu hq' => ?_⟩
    by_cases e : j = i
    · subst e
      rw [List.getElem?_set, if_pos rfl, if_pos (by omega)] at hu
      obtain rfl := Option.some.inj hu
      rw [hx] at hq'
      obtain rfl := Option.some.inj hq'
      exact ⟨by rw [Array.getElem?_setIfInBounds, if_neg (by omega)]; exact hq.1, by rw [Array.getElem?_setIfInBounds, if_neg (by omega)]; exact hq.2.1, by rw [Array.getElem?_setIfInBounds, if_neg (by omega)]; exact hq.2.2.1, by rw [Array.getElem?_setIfInBounds, if_neg (by omega)]; exact hq.2.2.2.1, by rw [Array.getElem?_setIfInBounds, if_pos rfl, if_pos hlt]⟩
    · rw [List.getElem?_set, if_neg e] at hu
      have z := h8 i u q hu hq'
      exact ⟨by rw [Array.getElem?_setIfInBounds, if_neg (by omega)]; exact z.1, by rw [Array.getElem?_setIfInBounds, if_neg (by omega)]; exact z.2.1, by rw [Array.getElem?_setIfInBounds, if_neg (by omega)]; exact z.2.2.1, by rw [Array.getElem?_setIfInBounds, if_neg (by omega)]; exact z.2.2.2.1, by rw [Array.getElem?_setIfInBounds, if_neg (by omega)]; exact z.2.2.2.2⟩
/-- A slice of these as a result: what it holds lies in blocks from lo on, below hi, no two rows in one. -/
def LnksR (lo hi : Nat) (w : World) (v : Value) (xs : List Lnk) : Prop := ∃ us, VL lo hi w v us xs ∧ Fam lo w us (xs.map Lnk.tok) ∧ ∀ x ∈ us, ∀ q, x.ownBlock = some q → q < hi
theorem LnksR.below {lo hi : Nat} {w w' : World} {v : Value} {xs : List Lnk} (h : LnksR lo hi w v xs) (hb : Below w.heap.size w w') : LnksR lo hi w' v xs := by
  obtain ⟨us, h1, h2, h3⟩ := h
  exact ⟨us, h1.keep (fun B cur _ _ q => blk_in q hb), h2.below hb, h3⟩
theorem LnksR.out {lo hi l2 h2 : Nat} {w w' : World} {v : Value} {xs : List Lnk} (h : LnksR lo hi w v xs) (ho : Out l2 h2 w w') (hd : hi ≤ l2 ∨ h2 ≤ lo) : LnksR lo hi w' v xs := by
  obtain ⟨us, h1, hF, h3⟩ := h
  exact ⟨us, h1.keep (fun B cur a b q => ho.blk q (by omega)), hF.out h3 ho hd, h3⟩
theorem LnksR.mono {lo hi lo' hi' : Nat} {w : World} {v : Value} {xs : List Lnk} (h : LnksR lo hi w v xs) (h1 : lo' ≤ lo) (h2 : hi ≤ hi') : LnksR lo' hi' w v xs := by
  obtain ⟨us, a, hF, h3⟩ := h
  exact ⟨us, a.mono h1 h2, hF.mono h1, fun x hx q e => Nat.lt_of_lt_of_le (h3 x hx q e) h2⟩
theorem LnksR.outT {lo hi T1 T2 l2 h2 : Nat} {w w' : World} {v : Value} {xs : List Lnk} (h : LnksR lo hi w v xs) (ho : OutT T1 T2 l2 h2 w w') (n1 : 68 ≠ T1) (n2 : 68 ≠ T2) (n3 : 3 ≠ T1) (n4 : 3 ≠ T2) : LnksR lo hi w' v xs := by
  obtain ⟨us, h1, hF, h3⟩ := h
  exact ⟨us, h1.keep (fun B cur _ _ q => (ho.ty B _ ⟨_, _, q⟩ n1 n2).trans q), ⟨hF.len, fun i x xs hx hxs => row_outT (hF.own i x xs hx hxs) ho n3 n4, hF.apart⟩, h3⟩
theorem LnksR.outB {lo hi B T : Nat} {w w' : World} {v : Value} {xs : List Lnk} {cs : Array Value} (h : LnksR lo hi w v xs) (hB : w.heap[B]? = some (.cells cs T)) (h1 : T ≠ 3) (h2 : T ≠ 68) (ho : Out B (B + 1) w w') : LnksR lo hi w' v xs := by
  obtain ⟨us, hv, hF, hh⟩ := h
  exact ⟨us, hv.keep (fun k cur _ _ hk => (ho.block k (lt_of hk) (by have : k ≠ B := (fun e => by subst e; rw [hk] at hB; simp at hB; exact h2 hB.2.symm); omega)).trans hk), hF.outB hB h1 ho, hh⟩
theorem LnksR.v {lo hi : Nat} {w : World} {v : Value} {xs : List Lnk} (h : LnksR lo hi w v xs) (hw : ∀ l ∈ xs, wfL l) : SlL w v xs := by
  obtain ⟨us, h1, hF, h3⟩ := h
  have hl := h1.len
  rcases h1 with ⟨rfl, rfl, rfl⟩ | ⟨B, cap, cur, rfl, a2, a3, a4, a5, a6, a7, a8⟩
  · exact ⟨none, 0, rfl, Nat.le_refl _, by simp, fun _ => rfl, .inl rfl⟩
  · refine ⟨_, cap, by rw [hl], by omega, a5, (fun e => by cases e), .inr ⟨B, 0, rfl, lt_of a6, fun i x hx => ?_⟩⟩
    have hi := (List.getElem?_eq_some_iff.1 hx).1
    obtain ⟨u, hu⟩ : ∃ u, us[i]? = some u := ⟨_, List.getElem?_eq_getElem (by omega)⟩
    have z := a8 i u x hu hx
    simp only [Nat.zero_add]
    exact ⟨u, (cell_of a6 _).trans z.1, (cell_of a6 _).trans z.2.1, (cell_of a6 _).trans z.2.2.1, (cell_of a6 _).trans z.2.2.2.1, (cell_of a6 _).trans z.2.2.2.2, hw x (List.mem_of_getElem? hx), (hF.own i u x.tok hu (by rw [List.getElem?_map, hx]; rfl)).sl⟩
theorem LnksR.shape {lo hi : Nat} {w : World} {v : Value} {xs : List Lnk} (h : LnksR lo hi w v xs) : ∃ a c, v = .slice a xs.length c := by
  obtain ⟨us, h1, _⟩ := h
  exact h1.shape
theorem LnksR.nil (lo hi : Nat) (w : World) : LnksR lo hi w (.slice none 0 0) [] := ⟨[], .inl ⟨rfl, rfl, rfl⟩, ⟨rfl, fun i u x h => by simp at h, fun i j u v h => by simp at h⟩, fun x h => by simp at h⟩
/-- What the row beside holds is no part of it. -/
theorem VL.row {lo hi j : Nat} {w : World} {v : Value} {us : List Value} {xs : List Lnk} {x y : Lnk} (h : VL lo hi w v us (xs.set j x)) (hj : (xs.set j x)[j]? = some x) (he : x.frm = y.frm ∧ x.out = y.out ∧ x.to = y.to ∧ x.inn = y.inn) : VL lo hi w v us (xs.set j y) := by
  have hjl := (List.getElem?_eq_some_iff.1 hj).1
  rw [List.length_set] at hjl
  rcases h with ⟨_, _, e⟩ | ⟨B, cap, cur, h1, h2, h3, h4, h5, h6, h7, h8⟩
  · exfalso
    have h0 : xs.length = 0 := by have := congrArg List.length e; rwa [List.length_set] at this
    omega
  · rw [List.length_set] at h7
    refine .inr ⟨B, cap, cur, h1, h2, h3, h4, h5, h6, by rw [List.length_set]; exact h7, fun i u p hu hp => ?_⟩
    rw [List.getElem?_set] at hp
    by_cases e : j = i
    · subst e
      rw [if_pos rfl, if_pos hjl] at hp
      obtain rfl := Option.some.inj hp
      have z := h8 j u x hu hj
      exact ⟨by rw [← he.1]; exact z.1, by rw [← he.2.1]; exact z.2.1, by rw [← he.2.2.1]; exact z.2.2.1, by rw [← he.2.2.2]; exact z.2.2.2.1, z.2.2.2.2⟩
    · rw [if_neg e] at hp
      exact h8 i u p hu (by rw [List.getElem?_set, if_neg e]; exact hp)

set_option maxRecDepth 100000 in
set_option maxHeartbeats 4000000 in
theorem markL_r (lo hi : Nat) (v : Value) (xs : List Lnk) (k : Int) (w : World) (h : LnksR lo hi w v xs) (hk0 : 0 ≤ k) (hk : k + ((xs.map stL).sum : Nat) ≤ 1000000000) :
    Calls Try.prog 57 #[v, .int .i64 k] w fun e w' => e = .returned (.int .i64 (k + ((xs.map stL).sum : Nat))) ∧ LnksR lo hi w' v (mkAll stL mkL k xs) ∧ OutT 68 3 lo hi w w' := by
  obtain ⟨us, hv, hF, h3⟩ := h
  have hl := hv.len
  obtain ⟨m, hmm⟩ : ∃ m, m = us.length := ⟨_, rfl⟩
  obtain ⟨s, hs⟩ : ∃ s : Nat, s = (xs.map stL).sum := ⟨_, rfl⟩
  rw [← hs] at hk ⊢
  have HS := Lib.hid hs
  have hm9 : m ≤ 1000000000 := by have := len_le_sum (st := stL) (fun x => by unfold stL; omega) xs; omega
  obtain ⟨va, vc, hve⟩ := hv.shape
  rw [show xs.length = m by omega] at hve
  subst hve
  have HV0 := Lib.hid (show VL lo hi w (.slice va m vc) us (mkT stL mkL k xs 0) by rw [mkT_zero]; exact hv)
  have HF0 := Lib.hid (show Fam lo w us ((mkT stL mkL k xs 0).map Lnk.tok) by rw [mkT_zero]; exact hF)
  have HM := Lib.hid (show us.length = m from hmm.symm)
  have HX := Lib.hid (show xs.length = m by omega)
  have H3 := Lib.hid h3
  clear hs hv hF h3 hl hmm
  go_enter Try.func57, Try.ntmps57
  go_wp2_with fail
  go_loopw [1, 5] (fun t i wr => ∃ (j : Nat) (z : Int), j ≤ m ∧ i = .int .i64 j ∧ t = .int .i64 z ∧ Hid (z = k + (((xs.take j).map stL).sum : Nat)) ∧ Hid (VL lo hi wr (.slice va m vc) us (mkT stL mkL k xs j)) ∧ Hid (Fam lo wr us ((mkT stL mkL k xs j).map Lnk.tok)) ∧ Hid (OutT 68 3 lo hi w wr)) (fun _ i _ => m - (intOf i).toNat)
  case atStart => exact ⟨0, k, Nat.zero_le _, rfl, rfl, Lib.hid (by simp), HV0, HF0, Lib.hid (OutT.refl _ _ _ _ _)⟩
  case round =>
    clear HV0 HF0
    obtain ⟨j, z, hj, rfl, rfl, HZ, HV, HF, HO⟩ := hrel
    by_cases hlt : j < m
    · obtain ⟨x, hx⟩ : ∃ x, xs[j]? = some x := ⟨_, List.getElem?_eq_getElem (by rw [HX.out]; exact hlt)⟩
      obtain ⟨c, hc⟩ : ∃ c, us[j]? = some c := ⟨_, List.getElem?_eq_getElem (by rw [HM.out]; exact hlt)⟩
      have hst := mk_sum_step (st := stL) hx
      have hle := mk_sum_take_le (st := stL) xs (j + 1)
      rw [hst, ← HS.out] at hle
      obtain ⟨un, hun⟩ : ∃ q, q = x.tok.length := ⟨_, rfl⟩
      have hzb : 0 ≤ z ∧ z + 4 + (un : Int) ≤ 1000000000 := by have := HZ.out; have hh : stL x = 4 + x.tok.length := rfl; rw [hh, ← hun] at hle; omega
      have hat := mkT_at (st := stL) (mk := mkL) (k := k) hx
      have hjl : j < (mkT stL mkL k xs j).length := (List.getElem?_eq_some_iff.1 hat).1
      obtain ⟨B, vc', hve, hB1, hB2, hBl, hBT, hfr, c0, c1, c2, c3, c4⟩ := HV.out.at hc hat
      rw [HM.out] at hve
      simp only [Value.slice.injEq, true_and] at hve
      obtain ⟨rfl, rfl⟩ := hve
      have v1 := HV.out.set0 (hat) (z)
      have v2 := v1.set1 ((List.getElem?_set_self (by first | exact hjl | (simp only [List.length_set]; exact hjl)))) (z + 1)
      have v3 := v2.set2 ((List.getElem?_set_self (by first | exact hjl | (simp only [List.length_set]; exact hjl)))) (z + 1 + 1)
      have v4 := v3.set3 ((List.getElem?_set_self (by first | exact hjl | (simp only [List.length_set]; exact hjl)))) (z + 1 + 1 + 1)
      have F1 := HF.out.setT (j := j * 5) hBT (by decide) (.int .i64 (z))
      have F2 := F1.setT (j := j * 5 + 1) (hBT.setCell _ _) (by decide) (.int .i64 (z + 1))
      have F3 := F2.setT (j := j * 5 + 2) ((hBT.setCell _ _).setCell _ _) (by decide) (.int .i64 (z + 1 + 1))
      have F4 := F3.setT (j := j * 5 + 3) (((hBT.setCell _ _).setCell _ _).setCell _ _) (by decide) (.int .i64 (z + 1 + 1 + 1))
      have HV2 := Lib.hid v4
      have HF2 := Lib.hid F4
      have HC := Lib.hid hc
      have HXX := Lib.hid hx
      have HST := Lib.hid hst
      have HUN := Lib.hid hun
      have HBT := Lib.hid hBT
      have HBB := Lib.hid (And.intro hB1 hB2)
      have HJL := Lib.hid hjl
      have ho2 := HF2.out.own j c x.tok hc (by rw [List.getElem?_map, hat]; rfl)
      have HOW2 := Lib.hid ho2
      obtain ⟨ca, cc, rfl⟩ := ho2.shape
      rw [← hun] at c4
      have f0 := hfr (j * 5); have f1 := hfr (j * 5 + 1); have f2 := hfr (j * 5 + 2); have f3 := hfr (j * 5 + 3); have f4 := hfr (j * 5 + 4)
      clear hc hx hst hle hun hat hjl hB1 hB2 hBT hfr ho2 v1 v2 v3 v4 F1 F2 F3 F4
      go_wp2_with (go_at_call 20; refine (mark_any lo _ x.tok (z + 1 + 1 + 1 + 1) _ (by rw [HUN.out]; exact HOW2.out) (by omega) (by omega) (by have := HUN.out; omega)).mono ?_; rintro e w2 ⟨rfl, ho2, hg2⟩; have HG2 := Lib.hid hg2; have HO2 := Lib.hid ho2; rw [← HUN.out]; clear ho2 hg2)
      go_roundw
      case rel =>
        have hzz := HZ.out
        have hst := HST.out
        have hun := HUN.out
        have hh : stL x = 4 + x.tok.length := rfl
        have hg2 := HG2.out
        have ho2 := HO2.out
        rw [HUN.out] at hg2 ho2
        have q1 := HF2.out.row HC.out hg2 ho2
        have q2 := HV2.out.keep (w' := w2) (fun B' cur' _ _ q => grown_keep q (by decide) HOW2.out hg2)
        have e := mkT_step (st := stL) (mk := mkL) (k := k) HXX.out
        rw [← hzz] at e
        refine ⟨j + 1, z + 1 + 1 + 1 + 1 + (un : Int), by omega, by go_num, rfl, Lib.hid (by rw [hst, hh, ← hun]; omega), Lib.hid ?_, Lib.hid ?_, Lib.hid ?_⟩
        · rw [← e]
          simp only [List.set_set] at q2
          exact VL.row q2 (by rw [List.getElem?_set_self HJL.out]) ⟨rfl, rfl, rfl, rfl⟩
        · rw [← e, List.map_set]
          exact q1
        · exact ((((HO.out.setC (p := ⟨B, j * 5, none⟩) HBB.out.1 HBB.out.2 HBT.out (.int .i64 (z))).setC (p := ⟨B, j * 5 + 1, none⟩) HBB.out.1 HBB.out.2 (HBT.out.setCell _ _) (.int .i64 (z + 1))).setC (p := ⟨B, j * 5 + 2, none⟩) HBB.out.1 HBB.out.2 ((HBT.out.setCell _ _).setCell _ _) (.int .i64 (z + 1 + 1))).setC (p := ⟨B, j * 5 + 3, none⟩) HBB.out.1 HBB.out.2 (((HBT.out.setCell _ _).setCell _ _).setCell _ _) (.int .i64 (z + 1 + 1 + 1))).grown hg2 (fun q e => ⟨(HOW2.out.lt q e).1, H3.out _ (List.mem_of_getElem? HC.out) q e, row_typed HOW2.out q e⟩)
      case measure => simp [intOf]; omega
    · obtain rfl : j = m := by omega
      have hz := HZ.out
      have hp := HF.out
      have hq := HV.out
      rw [← HX.out, List.take_length, ← HS.out] at hz
      have e := mkT_all (st := stL) (mk := mkL) k xs
      rw [HX.out] at e
      rw [e] at hp hq
      subst hz
      go_wp2_with fail
      go_ret
      exact ⟨rfl, ⟨us, hq, hp, H3.out⟩, HO.out⟩


set_option maxRecDepth 100000 in
set_option maxHeartbeats 1600000 in
theorem heldL_r (v : Value) (xs : List Lnk) (k : Int) (w : World) (h : SlL w v (mkAll stL mkL k xs)) (hk0 : 0 ≤ k) (hk : k + ((xs.map stL).sum : Nat) ≤ 1000000000) :
    Calls Try.prog 59 #[v, .int .i64 k] w fun e w' => e = .returned (.int .i64 (k + ((xs.map stL).sum : Nat))) ∧ w = w' := by
  obtain ⟨a, cap, rfl, _, _, _, hc⟩ := h
  rw [mkAll_len]
  obtain ⟨m, hmm⟩ : ∃ m, m = xs.length := ⟨_, rfl⟩
  obtain ⟨s, hs⟩ : ∃ s : Nat, s = (xs.map stL).sum := ⟨_, rfl⟩
  rw [← hs] at hk ⊢
  have hm : m ≤ 1000000000 := by have := len_le_sum (st := stL) (fun x => by unfold stL; omega) xs; omega
  rw [← hmm]
  have HM := Lib.hid (show xs.length = m from hmm.symm)
  have HS := Lib.hid hs
  have HC := Lib.hid hc
  clear hs hmm hc
  go_enter Try.func59, Try.ntmps59
  go_wp2_with fail
  go_loop [1, 5] (fun t i => ∃ (j : Nat) (z : Int), j ≤ m ∧ i = .int .i64 j ∧ t = .int .i64 z ∧ Hid (z = k + (((xs.take j).map stL).sum : Nat))) (fun _ i => m - (intOf i).toNat)
  case atStart => exact ⟨0, k, Nat.zero_le _, rfl, rfl, Lib.hid (by simp)⟩
  case round =>
    obtain ⟨j, z, hj, rfl, rfl, HZ⟩ := hrel
    by_cases hlt : j < m
    · obtain ⟨x, hx⟩ : ∃ x, xs[j]? = some x := ⟨_, List.getElem?_eq_getElem (by rw [HM.out]; exact hlt)⟩
      have hst := mk_sum_step (st := stL) hx
      have hle := mk_sum_take_le (st := stL) xs (j + 1)
      rw [hst, ← HS.out] at hle
      have hmk : (mkAll stL mkL k xs)[j]? = some (mkL z x) := by
        rw [mkAll_at k xs j x hx, ← HZ.out]
      obtain ⟨un, hun⟩ : ∃ q, q = x.tok.length := ⟨_, rfl⟩
      have hzb : 0 ≤ z ∧ z + 4 + (un : Int) ≤ 1000000000 := by have := HZ.out; have hh : stL x = 4 + x.tok.length := rfl; rw [hh, ← hun] at hle; omega
      have hcell : ∃ b off u, a = some ⟨b, off, none⟩ ∧ w.cell? ⟨b, off + j * 5, none⟩ = some (.int .i64 (z)) ∧ w.cell? ⟨b, off + j * 5 + 1, none⟩ = some (.int .i64 (z + 1)) ∧ w.cell? ⟨b, off + j * 5 + 2, none⟩ = some (.int .i64 (z + 1 + 1)) ∧ w.cell? ⟨b, off + j * 5 + 3, none⟩ = some (.int .i64 (z + 1 + 1 + 1)) ∧ w.cell? ⟨b, off + j * 5 + 4, none⟩ = some u ∧ Sl w u (marks (z + 1 + 1 + 1 + 1) un) := by
        rcases HC.out with e | ⟨b, off, e, _, hcc⟩
        · exfalso
          rw [e] at hmk
          simp at hmk
        · obtain ⟨u, h0, h1, h2, h3, hu, _, hlast⟩ := hcc j _ hmk
          exact ⟨b, off, u, e, h0, h1, h2, h3, hu, by rw [hun]; exact hlast⟩
      obtain ⟨b, off, u, rfl, z0, z1, z2, z3, hcl, hsl⟩ := hcell
      have HSL := Lib.hid hsl
      have HST := Lib.hid hst
      have HN := Lib.hid hun
      clear hx hst hle hmk hun hsl
      go_wp2_with (go_at_call 40; refine (held_any _ (z + 1 + 1 + 1 + 1) un _ HSL.out (by omega) (by omega) (by omega)).mono ?_; rintro e w2 ⟨rfl, rfl⟩)
      go_round
      case rel =>
        have hzz := HZ.out
        have hst := HST.out
        exact ⟨j + 1, z + 1 + 1 + 1 + 1 + (un : Int), by omega, by go_num, rfl, Lib.hid (by rw [hst, show stL x = 4 + x.tok.length from rfl, ← HN.out]; omega)⟩
      case measure => simp [intOf]; omega
    · obtain rfl : j = m := by omega
      have hz := HZ.out
      rw [← HM.out, List.take_length, ← HS.out] at hz
      subst hz
      go_wp2_with fail
      go_ret
      exact ⟨rfl, rfl⟩

end Go.Proofs.Ytkeoefbkeommhaa
