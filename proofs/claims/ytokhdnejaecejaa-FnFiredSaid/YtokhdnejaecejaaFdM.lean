/-
  Two nodes that can fire can fire in either order: the mathematics. No statement of the seat is proved here.
-/
import Derived.Test.YtokhdnejaecejaaGrF
namespace Go.Proofs.Ytokhdnejaecejaa
open Go.RowKit

theorem fireL_at {es : List Edg} {k : Int} {ts : List Int} {j : Nat} (h : j < ts.length) :
    (fireL es k ts).getD j 0 = ts.getD j 0 + (if toK es k j then dTk es j else 0) + (if frK es k j then dMk es j else 0) := by
  unfold fireL
  rw [chg_at (by rw [chg_len]; exact h), chg_at h]
theorem fire_comm (es : List Edg) (i k : Int) (ts : List Int) : fireL es k (fireL es i ts) = fireL es i (fireL es k ts) := by
  apply List.ext_getElem (by simp [fireL_len])
  intro j h1 h2
  have hj : j < ts.length := by simpa [fireL_len] using h1
  have a := fireL_at (es := es) (k := k) (ts := fireL es i ts) (j := j) (by rw [fireL_len]; exact hj)
  have b := fireL_at (es := es) (k := i) (ts := fireL es k ts) (j := j) (by rw [fireL_len]; exact hj)
  rw [fireL_at hj] at a b
  simp only [List.getD, List.getElem?_eq_getElem h1, Option.getD_some] at a
  simp only [List.getD, List.getElem?_eq_getElem h2, Option.getD_some] at b
  rw [a, b]
  omega
theorem okF_parts {g : Grf} {ts : List Int} {k : Int} (h : okF g ts k = true) : GoodG g ∧ ts.length = g.edges.length ∧ inB 0 (g.nodes - 1) k = true ∧ canL g.edges k ts = true ∧ (∀ i, i < ts.length → 0 ≤ ts.getD i 0 ∧ ts.getD i 0 ≤ 1000000) := by
  unfold okF at h
  simp only [Bool.and_eq_true] at h
  exact ⟨okG_iff.1 h.1.1, okToks_len h.1.2, h.2.1, h.2.2, okToks_at h.1.2⟩
theorem okF_mk {g : Grf} {ts : List Int} {k : Int} (hg : GoodG g) (hl : ts.length = g.edges.length) (hi : inB 0 (g.nodes - 1) k = true) (hc : canL g.edges k ts = true) (hb : ∀ i, i < ts.length → 0 ≤ ts.getD i 0 ∧ ts.getD i 0 ≤ 1000000) : okF g ts k = true := by
  unfold okF okToks
  simp only [Bool.and_eq_true, decide_eq_true_eq, List.all_eq_true]
  refine ⟨⟨okG_iff.2 hg, hl, fun x hx => ?_⟩, hi, hc⟩
  obtain ⟨i, hi'⟩ := List.getElem?_of_mem hx
  have hlt := (List.getElem?_eq_some_iff.1 hi').1
  have := hb i hlt
  rw [show ts.getD i 0 = x by simp [List.getD, hi']] at this
  exact inB_yes this.1 this.2
theorem fire_can {g : Grf} {ts : List Int} {i k : Int} (h1 : okF g ts i = true) (h2 : okF g ts k = true) (hne : i ≠ k) (hb : ∀ j, j < ts.length → ts.getD j 0 ≤ 900000) : okF g (fireL g.edges i ts) k = true := by
  obtain ⟨G, hl, _, hc, hp⟩ := okF_parts h1
  obtain ⟨_, _, hi2, hc2, _⟩ := okF_parts h2
  have bd := fireL_bd (B := 900000) G.all hl hc (fun j hj => ⟨(hp j hj).1, hb j hj⟩)
  refine okF_mk G (by rw [fireL_len]; exact hl) hi2 ?_ (fun j hj => by rw [fireL_len] at hj; have := bd j hj; omega)
  rw [canL_iff] at hc2 ⊢
  intro j hj ht
  have hjt : j < ts.length := by omega
  have h3 := hc2 j hj ht
  obtain ⟨e, he⟩ : ∃ e, g.edges[j]? = some e := ⟨_, List.getElem?_eq_getElem hj⟩
  have hmk := (G.all j e he).mke
  rw [fireL_at hjt]
  have hti : toK g.edges i j = false := by
    unfold toK at ht ⊢
    rw [beq_iff_eq] at ht
    rw [ht, beq_eq_false_iff_ne]
    exact fun e => hne e.symm
  rw [hti]
  have hm : 1 ≤ dMk g.edges j := by unfold dMk; rw [edAt_of he]; exact hmk.1
  rw [if_neg (by decide)]
  split <;> omega
end Go.Proofs.Ytokhdnejaecejaa
