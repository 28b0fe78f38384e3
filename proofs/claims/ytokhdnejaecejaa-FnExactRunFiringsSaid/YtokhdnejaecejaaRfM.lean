/-
  Runs of firings as data, and the tokens at first: the program's and the model's. No statement of the seat is proved here.
-/
import Derived.Test.YtokhdnejaecejaaGrS
namespace Go.Proofs.Ytokhdnejaecejaa
open Go.RowKit

/-- The tokens at first. -/
def tok0 (es : List Edg) : List Int := es.map Edg.tok
theorem tok0_len (es : List Edg) : (tok0 es).length = es.length := by simp [tok0]
theorem tok0_at {es : List Edg} {i : Nat} {e : Edg} (h : es[i]? = some e) : (tok0 es)[i]? = some e.tok := by simp [tok0, h]
theorem tok0_getD {es : List Edg} {i : Nat} {e : Edg} (h : es[i]? = some e) : (tok0 es).getD i 0 = e.tok := by simp [tok0, List.getD, h]
def maxL (ps ts : List Int) : List Int := (List.range ps.length).map fun i => max (ps.getD i 0) (ts.getD i 0)
theorem maxL_len (ps ts : List Int) : (maxL ps ts).length = ps.length := by simp [maxL]
def maxT (ps ts : List Int) (j : Nat) : List Int := (List.range ps.length).map fun i => if i < j then max (ps.getD i 0) (ts.getD i 0) else ps.getD i 0
theorem maxT_len (ps ts : List Int) (j : Nat) : (maxT ps ts j).length = ps.length := by simp [maxT]
theorem maxT_at {ps ts : List Int} {i j : Nat} (h : i < ps.length) : (maxT ps ts j).getD i 0 = if i < j then max (ps.getD i 0) (ts.getD i 0) else ps.getD i 0 := by
  simp [maxT, List.getD, h]
theorem maxT_zero (ps ts : List Int) : maxT ps ts 0 = ps := by
  apply List.ext_getElem (by simp [maxT])
  intro i h1 h2
  simp [maxT, List.getD, h2]
theorem maxT_all {ps ts : List Int} {j : Nat} (h : ¬ j < ps.length) : maxT ps ts j = maxL ps ts := by
  apply List.ext_getElem (by simp [maxT, maxL])
  intro i h1 h2
  have hi : i < ps.length := by simpa [maxT] using h1
  simp [maxT, maxL, show i < j by omega]
theorem maxT_set {ps ts : List Int} {j : Nat} (_h : j < ps.length) : (maxT ps ts j).set j (max (ps.getD j 0) (ts.getD j 0)) = maxT ps ts (j + 1) := by
  apply List.ext_getElem (by simp [maxT])
  intro i h1 h2
  have hi : i < ps.length := by simpa [maxT] using h2
  rw [List.getElem_set]
  by_cases q : j = i
  · subst q
    simp [maxT]
  · rw [if_neg q]
    simp only [maxT, List.getElem_map, List.getElem_range]
    by_cases z : i < j
    · rw [if_pos z, if_pos (by omega)]
    · rw [if_neg z, if_neg (by omega)]
/-- One firing of a run. -/
def stepR (n : Int) (es : List Edg) (s : Option (List Int × List Int)) (k : Int) : Option (List Int × List Int) :=
  match s with
  | none => none
  | some (t, p) => if inB 0 (n - 1) k && canL es k t then some (fireL es k t, maxL p (fireL es k t)) else none
def runR (g : Grf) (ks : List Int) : Option (List Int × List Int) := ks.foldl (stepR g.nodes g.edges) (some (tok0 g.edges, tok0 g.edges))
theorem stepR_none (n : Int) (es : List Edg) : ∀ ks : List Int, ks.foldl (stepR n es) none = none
  | [] => rfl
  | _ :: ks => stepR_none n es ks
theorem runR_take {g : Grf} {ks : List Int} {j : Nat} {k : Int} (h : ks[j]? = some k) : runR g (ks.take (j + 1)) = stepR g.nodes g.edges (runR g (ks.take j)) k := by
  unfold runR
  rw [List.take_add_one, h, List.foldl_append]
  rfl
theorem runR_fail {g : Grf} {ks : List Int} {j : Nat} (h : runR g (ks.take j) = none) : runR g ks = none := by
  unfold runR at *
  rw [← List.take_append_drop j ks, List.foldl_append, h, stepR_none]
theorem stepR_yes {n : Int} {es : List Edg} {t p : List Int} {k : Int} (h : (inB 0 (n - 1) k && canL es k t) = true) : stepR n es (some (t, p)) k = some (fireL es k t, maxL p (fireL es k t)) := by
  unfold stepR; simp only []; rw [if_pos h]
theorem stepR_no {n : Int} {es : List Edg} {t p : List Int} {k : Int} (h : (inB 0 (n - 1) k && canL es k t) = false) : stepR n es (some (t, p)) k = none := by
  unfold stepR; simp only []; rw [if_neg (by rw [h]; decide)]
/-- What is known of the tokens and peaks behind j firings. -/
structure RunI (es : List Edg) (t p : List Int) (B : Int) : Prop where
  tl : t.length = es.length
  pl : p.length = es.length
  tb : ∀ i, i < t.length → 0 ≤ t.getD i 0 ∧ t.getD i 0 ≤ B
theorem runI_zero {g : Grf} (h : GoodG g) : RunI g.edges (tok0 g.edges) (tok0 g.edges) 50 := by
  refine ⟨tok0_len _, tok0_len _, fun i hi => ?_⟩
  rw [tok0_len] at hi
  obtain ⟨e, he⟩ : ∃ e, g.edges[i]? = some e := ⟨_, List.getElem?_eq_getElem hi⟩
  rw [tok0_getD he]
  exact (h.all i e he).tok
theorem runI_step {g : Grf} {t p : List Int} {B : Int} {k : Int} (h : GoodG g) (r : RunI g.edges t p B) (hc : canL g.edges k t = true) : RunI g.edges (fireL g.edges k t) (maxL p (fireL g.edges k t)) (B + 5) := by
  refine ⟨by rw [fireL_len, r.tl], by rw [maxL_len, r.pl], fun i hi => ?_⟩
  rw [fireL_len] at hi
  exact fireL_bd h.all r.tl hc r.tb i hi
def okRun (g : Grf) (ks : List Int) : Bool := okG g && decide (ks.length ≤ 1600) && (runR g ks).isSome
def runT (g : Grf) (ks : List Int) : List Int := if okRun g ks then ((runR g ks).getD ([], [])).1 else []
def runP (g : Grf) (ks : List Int) : List Int := if okRun g ks then ((runR g ks).getD ([], [])).2 else []
theorem okRun_no1 {g : Grf} {ks : List Int} (h : okG g = false) : okRun g ks = false := by simp [okRun, h]
theorem okRun_no2 {g : Grf} {ks : List Int} (h : ¬ ks.length ≤ 1600) : okRun g ks = false := by simp [okRun, h]
theorem okRun_no3 {g : Grf} {ks : List Int} (h : runR g ks = none) : okRun g ks = false := by simp [okRun, h]
theorem runT_no {g : Grf} {ks : List Int} (h : okRun g ks = false) : runT g ks = [] := by simp [runT, h]
theorem runP_no {g : Grf} {ks : List Int} (h : okRun g ks = false) : runP g ks = [] := by simp [runP, h]
theorem okRun_yes {g : Grf} {ks : List Int} {t p : List Int} (h1 : okG g = true) (h2 : ks.length ≤ 1600) (h3 : runR g ks = some (t, p)) : okRun g ks = true := by simp [okRun, h1, h2, h3]
theorem runT_yes {g : Grf} {ks : List Int} {t p : List Int} (h1 : okG g = true) (h2 : ks.length ≤ 1600) (h3 : runR g ks = some (t, p)) : runT g ks = t := by simp [runT, okRun_yes h1 h2 h3, h3]
theorem runP_yes {g : Grf} {ks : List Int} {t p : List Int} (h1 : okG g = true) (h2 : ks.length ≤ 1600) (h3 : runR g ks = some (t, p)) : runP g ks = p := by simp [runP, okRun_yes h1 h2 h3, h3]
theorem runR_len {g : Grf} (_h : GoodG g) : ∀ (ks : List Int) (t p : List Int), runR g ks = some (t, p) → t.length = g.edges.length ∧ p.length = g.edges.length := by
  have H : ∀ (ks : List Int) (s : Option (List Int × List Int)) (t p : List Int), (∀ t p, s = some (t, p) → t.length = g.edges.length ∧ p.length = g.edges.length) → ks.foldl (stepR g.nodes g.edges) s = some (t, p) → t.length = g.edges.length ∧ p.length = g.edges.length := by
    intro ks
    induction ks with
    | nil => intro s t p hs e; exact hs t p e
    | cons k ks ih =>
      intro s t p hs e
      refine ih _ t p ?_ e
      intro t2 p2 e2
      rcases s with _ | ⟨t1, p1⟩
      · cases e2
      · have := hs t1 p1 rfl
        unfold stepR at e2
        simp only [] at e2
        split at e2
        · simp only [Option.some.injEq, Prod.mk.injEq] at e2
          rw [← e2.1, ← e2.2, fireL_len, maxL_len]; exact this
        · cases e2
  intro ks t p e
  refine H ks _ t p ?_ e
  intro t p e
  simp only [Option.some.injEq, Prod.mk.injEq] at e
  rw [← e.1, ← e.2]
  exact ⟨tok0_len _, tok0_len _⟩
theorem run_bd (g : Grf) (ks : List Int) : (runT g ks).length ≤ 16 ∧ (runP g ks).length ≤ 16 := by
  cases h : okRun g ks with
  | false => rw [runT_no h, runP_no h]; simp
  | true =>
    have h2 := h
    unfold okRun at h2
    simp only [Bool.and_eq_true, decide_eq_true_eq] at h2
    obtain ⟨⟨h3, h4⟩, h5⟩ := h2
    obtain ⟨⟨t, p⟩, h6⟩ := Option.isSome_iff_exists.1 h5
    rw [runT_yes h3 h4 h6, runP_yes h3 h4 h6]
    have := runR_len (okG_iff.1 h3) ks t p h6
    have := (okG_iff.1 h3).len
    omega
end Go.Proofs.Ytokhdnejaecejaa
