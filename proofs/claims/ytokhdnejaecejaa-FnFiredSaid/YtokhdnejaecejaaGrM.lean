/-
  Graphs of rates as data: validity, firings, runs of firings. No statement of the seat is proved here.
-/
import Derived.Test.YtokhdnejaecejaaGrf
namespace Go.Proofs.Ytokhdnejaecejaa
open Go.RowKit

def okE (n : Int) (e : Edg) : Bool := inB 0 (n - 1) e.fr && inB 0 (n - 1) e.to && inB 1 5 e.mke && inB 1 5 e.tk && inB 0 50 e.tok
def okG (g : Grf) : Bool := decide (0 ≤ g.nodes) && decide (g.nodes ≤ 8) && decide (g.edges.length ≤ 16) && g.edges.all (okE g.nodes)
structure GoodE (n : Int) (e : Edg) : Prop where
  fr : 0 ≤ e.fr ∧ e.fr < n
  to : 0 ≤ e.to ∧ e.to < n
  mke : 1 ≤ e.mke ∧ e.mke ≤ 5
  tk : 1 ≤ e.tk ∧ e.tk ≤ 5
  tok : 0 ≤ e.tok ∧ e.tok ≤ 50
theorem okE_iff {n : Int} {e : Edg} : okE n e = true ↔ GoodE n e := by
  unfold okE inB
  simp only [Bool.and_eq_true, decide_eq_true_eq]
  constructor
  · rintro ⟨⟨⟨⟨h1, h2⟩, h3⟩, h4⟩, h5⟩; exact ⟨by omega, by omega, h3, h4, h5⟩
  · rintro ⟨h1, h2, h3, h4, h5⟩; exact ⟨⟨⟨⟨by omega, by omega⟩, h3⟩, h4⟩, h5⟩
structure GoodG (g : Grf) : Prop where
  nodes : 0 ≤ g.nodes ∧ g.nodes ≤ 8
  len : g.edges.length ≤ 16
  all : ∀ (i : Nat) (e : Edg), g.edges[i]? = some e → GoodE g.nodes e
theorem okG_iff {g : Grf} : okG g = true ↔ GoodG g := by
  unfold okG
  simp only [Bool.and_eq_true, decide_eq_true_eq, List.all_eq_true]
  constructor
  · rintro ⟨⟨⟨h1, h2⟩, h3⟩, h4⟩
    exact ⟨⟨h1, h2⟩, h3, fun i e he => okE_iff.1 (h4 e (List.mem_of_getElem? he))⟩
  · rintro ⟨⟨h1, h2⟩, h3, h4⟩
    refine ⟨⟨⟨h1, h2⟩, h3⟩, fun e he => ?_⟩
    obtain ⟨i, hi⟩ := List.getElem?_of_mem he
    exact okE_iff.2 (h4 i e hi)
theorem okG_head {g : Grf} (h : ¬ (0 ≤ g.nodes ∧ g.nodes ≤ 8 ∧ g.edges.length ≤ 16)) : okG g = false := by
  cases q : okG g with
  | false => rfl
  | true => exact absurd ⟨(okG_iff.1 q).nodes.1, (okG_iff.1 q).nodes.2, (okG_iff.1 q).len⟩ h
theorem okG_all {g : Grf} (h : 0 ≤ g.nodes ∧ g.nodes ≤ 8 ∧ g.edges.length ≤ 16) : okG g = g.edges.all (okE g.nodes) := by
  unfold okG; simp [h]
theorem allE_step {p : Edg → Bool} {xs : List Edg} {k : Nat} {x : Edg} (h : xs[k]? = some x) (ha : (xs.take k).all p = true) (hp : p x = true) : (xs.take (k + 1)).all p = true := by
  rw [List.take_add_one, h, List.all_append, ha]; simp [hp]
theorem allE_no {p : Edg → Bool} {xs : List Edg} {k : Nat} {x : Edg} (h : xs[k]? = some x) (hp : p x = false) : xs.all p = false := by
  rw [List.all_eq_false]; exact ⟨x, List.mem_of_getElem? h, by simp [hp]⟩
theorem allE_end {p : Edg → Bool} {xs : List Edg} {k : Nat} (h : ¬ k < xs.length) (ha : (xs.take k).all p = true) : xs.all p = true := by
  rwa [List.take_of_length_le (by omega)] at ha

/-- Every element is changed by d where P says so. -/
def chg (P : Nat → Bool) (d : Nat → Int) (ts : List Int) : List Int := (List.range ts.length).map fun i => ts.getD i 0 + if P i then d i else 0
theorem chg_len (P : Nat → Bool) (d : Nat → Int) (ts : List Int) : (chg P d ts).length = ts.length := by simp [chg]
theorem chg_at {P : Nat → Bool} {d : Nat → Int} {ts : List Int} {i : Nat} (h : i < ts.length) : (chg P d ts).getD i 0 = ts.getD i 0 + if P i then d i else 0 := by
  simp [chg, List.getD, h]
theorem chg_no {P : Nat → Bool} {d : Nat → Int} {ts : List Int} (h : ∀ i, i < ts.length → P i = false) : chg P d ts = ts := by
  apply List.ext_getElem (chg_len _ _ _)
  intro i h1 h2
  have := chg_at (P := P) (d := d) h2
  rw [h i h2] at this
  simpa [List.getD, h1, h2, chg_len] using this
theorem chg_set {P P' : Nat → Bool} {d : Nat → Int} {ts : List Int} {j : Nat} (hj : j < ts.length) (_h : P j = false) (hP : ∀ i, i < ts.length → P' i = (P i || i == j)) :
    (chg P d ts).set j (ts.getD j 0 + d j) = chg P' d ts := by
  apply List.ext_getElem (by simp [chg_len])
  intro i h1 h2
  have hi : i < ts.length := by simpa [chg_len] using h2
  rw [List.getElem_set]
  have e := chg_at (P := P') (d := d) hi
  have e2 := chg_at (P := P) (d := d) hi
  simp only [List.getD, chg_len, hi, List.getElem?_eq_getElem, Option.getD_some] at e e2
  rw [e]
  by_cases q : j = i
  · subst q
    rw [if_pos rfl, hP j hj]
    simp [List.getD, hi]
  · rw [if_neg q, e2, hP i hi]
    have : (i == j) = false := by simpa using fun z => q z.symm
    rw [this, Bool.or_false]
theorem chg_ext {P P' : Nat → Bool} {d d' : Nat → Int} {ts : List Int} (h : ∀ i, i < ts.length → P i = P' i) (hd : ∀ i, i < ts.length → P i = true → d i = d' i) : chg P d ts = chg P' d' ts := by
  apply List.ext_getElem (by simp [chg_len])
  intro i h1 h2
  have hi : i < ts.length := by simpa [chg_len] using h2
  have e := chg_at (P := P') (d := d') hi
  have e2 := chg_at (P := P) (d := d) hi
  simp only [List.getD, chg_len, hi, List.getElem?_eq_getElem, Option.getD_some] at e e2
  rw [e, e2, ← h i hi]
  cases q : P i with
  | false => rfl
  | true => simp [hd i hi q]

def edAt (es : List Edg) (i : Nat) : Edg := es.getD i noEd
theorem edAt_of {es : List Edg} {i : Nat} {e : Edg} (h : es[i]? = some e) : edAt es i = e := by simp [edAt, List.getD, h]
def toK (es : List Edg) (k : Int) (i : Nat) : Bool := (edAt es i).to == k
def frK (es : List Edg) (k : Int) (i : Nat) : Bool := (edAt es i).fr == k
def dTk (es : List Edg) (i : Nat) : Int := -(edAt es i).tk
def dMk (es : List Edg) (i : Nat) : Int := (edAt es i).mke
/-- The tokens behind a firing. -/
def fireL (es : List Edg) (k : Int) (ts : List Int) : List Int := chg (frK es k) (dMk es) (chg (toK es k) (dTk es) ts)
theorem fireL_len (es : List Edg) (k : Int) (ts : List Int) : (fireL es k ts).length = ts.length := by simp [fireL, chg_len]
def canAt (es : List Edg) (k : Int) (ts : List Int) (i : Nat) : Bool := !toK es k i || decide ((edAt es i).tk ≤ ts.getD i 0)
def canL (es : List Edg) (k : Int) (ts : List Int) : Bool := (List.range es.length).all (canAt es k ts)
theorem canL_iff {es : List Edg} {k : Int} {ts : List Int} : canL es k ts = true ↔ ∀ i, i < es.length → toK es k i = true → (edAt es i).tk ≤ ts.getD i 0 := by
  unfold canL canAt
  rw [List.all_eq_true]
  constructor
  · intro h i hi ht
    have := h i (List.mem_range.2 hi)
    simpa [ht] using this
  · intro h i hi
    have := h i (List.mem_range.1 hi)
    cases q : toK es k i with
    | false => rfl
    | true => simpa [q] using this q
/-- Bounds of the tokens behind a firing. -/
theorem fireL_bd {n : Int} {es : List Edg} {k : Int} {ts : List Int} {B : Int} (hg : ∀ (i : Nat) (e : Edg), es[i]? = some e → GoodE n e) (hl : ts.length = es.length) (hc : canL es k ts = true)
    (hb : ∀ i, i < ts.length → 0 ≤ ts.getD i 0 ∧ ts.getD i 0 ≤ B) : ∀ i, i < ts.length → 0 ≤ (fireL es k ts).getD i 0 ∧ (fireL es k ts).getD i 0 ≤ B + 5 := by
  intro i hi
  obtain ⟨e, he⟩ : ∃ e, es[i]? = some e := ⟨_, List.getElem?_eq_getElem (by omega)⟩
  have G := hg i e he
  have := G.mke; have := G.tk
  have hcc := canL_iff.1 hc i (by omega)
  unfold fireL
  rw [chg_at (by rw [chg_len]; exact hi), chg_at hi]
  unfold dMk dTk
  rw [edAt_of he] at hcc ⊢
  have hB := hb i hi
  split <;> split <;> first | omega | (rename_i q1 q2; have := hcc q2; omega) | (rename_i q1 q2; have := hcc q1; omega)

/-- The edges that a node has on a side, among the first j. -/
def idxT (f : Edg → Int) (es : List Edg) (k : Int) (j : Nat) : List Int := ((List.range j).filter fun i => f (edAt es i) == k).map Int.ofNat
theorem idxT_zero (f : Edg → Int) (es : List Edg) (k : Int) : idxT f es k 0 = [] := rfl
theorem idxT_yes {f : Edg → Int} {es : List Edg} {k : Int} {j : Nat} {e : Edg} (h : es[j]? = some e) (q : f e = k) : idxT f es k (j + 1) = idxT f es k j ++ [(j : Int)] := by
  unfold idxT; rw [List.range_succ, List.filter_append, List.map_append]; simp [edAt_of h, q]
theorem idxT_no {f : Edg → Int} {es : List Edg} {k : Int} {j : Nat} {e : Edg} (h : es[j]? = some e) (q : f e ≠ k) : idxT f es k (j + 1) = idxT f es k j := by
  unfold idxT; rw [List.range_succ, List.filter_append, List.map_append]; simp [edAt_of h, q]
theorem idxT_len (f : Edg → Int) (es : List Edg) (k : Int) (j : Nat) : (idxT f es k j).length ≤ j := by
  unfold idxT
  rw [List.length_map]
  exact Nat.le_trans (List.length_filter_le _ _) (by simp)
def idxs (f : Edg → Int) (es : List Edg) (k : Int) : List Int := idxT f es k es.length
def idxN (f : Edg → Int) (es : List Edg) (k : Int) : List Nat := (List.range es.length).filter fun i => f (edAt es i) == k
theorem idxs_map (f : Edg → Int) (es : List Edg) (k : Int) : idxs f es k = (idxN f es k).map Int.ofNat := rfl
theorem idxs_len (f : Edg → Int) (es : List Edg) (k : Int) : (idxs f es k).length = (idxN f es k).length := by simp [idxs_map]
theorem idxN_le (f : Edg → Int) (es : List Edg) (k : Int) : (idxN f es k).length ≤ es.length := by
  unfold idxN; exact Nat.le_trans (List.length_filter_le _ _) (by simp)
theorem idxs_at {f : Edg → Int} {es : List Edg} {k : Int} {p : Nat} (h : p < (idxs f es k).length) : ∃ i : Nat, (idxN f es k)[p]? = some i ∧ (idxs f es k).getD p 0 = (i : Int) ∧ i < es.length ∧ f (edAt es i) = k := by
  rw [idxs_len] at h
  refine ⟨(idxN f es k)[p], List.getElem?_eq_getElem h, ?_, ?_⟩
  · rw [idxs_map]; simp [List.getD, h]
  · have hm : ∀ x ∈ idxN f es k, x < es.length ∧ f (edAt es x) = k := by
      intro x hx
      unfold idxN at hx
      simpa using hx
    exact hm _ (List.getElem_mem h)
theorem idxN_nodup (f : Edg → Int) (es : List Edg) (k : Int) : (idxN f es k).Nodup := List.Pairwise.filter _ List.nodup_range
/-- What is done when p of the edges of a side are done. -/
def doneP (f : Edg → Int) (es : List Edg) (k : Int) (p : Nat) (i : Nat) : Bool := decide (i ∈ (idxN f es k).take p)
theorem doneP_zero (f : Edg → Int) (es : List Edg) (k : Int) (i : Nat) : doneP f es k 0 i = false := by simp [doneP]
theorem doneP_step {f : Edg → Int} {es : List Edg} {k : Int} {p j : Nat} (h : (idxN f es k)[p]? = some j) : ∀ i, doneP f es k (p + 1) i = (doneP f es k p i || i == j) := by
  intro i
  unfold doneP
  rw [List.take_add_one, h]
  simp only [List.mem_append, Option.mem_toList, Option.some.injEq]
  by_cases q : i = j
  · subst q; simp
  · have : (i == j) = false := by simpa using q
    rw [this, Bool.or_false]
    congr 1
    simp [eq_comm]
    intro z; exact absurd z.symm q
theorem doneP_new {f : Edg → Int} {es : List Edg} {k : Int} {p j : Nat} (h : (idxN f es k)[p]? = some j) : doneP f es k p j = false := by
  unfold doneP
  rw [decide_eq_false_iff_not]
  intro hm
  have hd := idxN_nodup f es k
  obtain ⟨q, hq⟩ := List.getElem?_of_mem hm
  rw [List.getElem?_take] at hq
  split at hq
  · rename_i hlt
    obtain ⟨hp, e1⟩ := List.getElem?_eq_some_iff.1 h
    obtain ⟨hqq, e2⟩ := List.getElem?_eq_some_iff.1 hq
    exact (List.pairwise_iff_getElem.1 hd) q p hqq hp hlt (by rw [e1, e2])
  · cases hq
theorem doneP_all {f : Edg → Int} {es : List Edg} {k : Int} {p i : Nat} (h : ¬ p < (idxs f es k).length) (hi : i < es.length) : doneP f es k p i = (f (edAt es i) == k) := by
  unfold doneP
  rw [idxs_len] at h
  rw [List.take_of_length_le (by omega)]
  unfold idxN
  rw [Bool.eq_iff_iff]
  simp [hi]
theorem canL_no {es : List Edg} {k : Int} {ts : List Int} {i : Nat} (hi : i < es.length) (h1 : (edAt es i).to = k) (h2 : ts.getD i 0 < (edAt es i).tk) : canL es k ts = false := by
  cases q : canL es k ts with
  | false => rfl
  | true => exact absurd (canL_iff.1 q i hi (by simp [toK, h1])) (by omega)
theorem canL_idx {es : List Edg} {k : Int} {ts : List Int} {p : Nat} (hp : ¬ p < (idxs Edg.to es k).length) (h : ∀ q, q < p → ∀ i, (idxN Edg.to es k)[q]? = some i → (edAt es i).tk ≤ ts.getD i 0) : canL es k ts = true := by
  rw [canL_iff]
  intro i hi ht
  have hm : i ∈ idxN Edg.to es k := by unfold idxN; simp [hi]; simpa [toK] using ht
  obtain ⟨q, hq⟩ := List.getElem?_of_mem hm
  rw [idxs_len] at hp
  exact h q (by have := (List.getElem?_eq_some_iff.1 hq).1; omega) i hq
end Go.Proofs.Ytokhdnejaecejaa
