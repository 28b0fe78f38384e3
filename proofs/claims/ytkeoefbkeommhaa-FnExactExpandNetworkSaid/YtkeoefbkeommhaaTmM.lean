/-
  Templates: the mathematics. No statement of the seat is proved here.
-/
import Derived.Test.YtkeoefbkeommhaaPtF
import Derived.Test.YtkeoefbkeommhaaGwS
namespace Go.Proofs.Ytkeoefbkeommhaa
open Go.RowKit

def insL (m : Net) : List Lnk := m.links.filter isInB
def outsL (m : Net) : List Lnk := m.links.filter isOutB
def innL (m : Net) : List Lnk := m.links.filter isMidB
def hasT (l : Lnk) : Bool := decide (0 < l.tok.length)
def prgAt (n : Net) (k : Int) : Prg := n.progs.getD k.toNat prg0
def templB (n : Net) (k : Int) (m : Net) : Bool :=
  okN n && okN m && decide (0 ≤ k ∧ k < (n.progs.length : Int)) && decide (((insL m).length : Int) = (prgAt n k).ins) && decide (((outsL m).length : Int) = (prgAt n k).outs) && !(insL m).any hasT && !(outsL m).any hasT
theorem templ_no1 {n m : Net} {k : Int} (h : okN n = false) : templB n k m = false := by unfold templB; rw [h]; rfl
theorem templ_no2 {n m : Net} {k : Int} (h : okN m = false) : templB n k m = false := by unfold templB; rw [h]; simp
theorem templ_no3 {n m : Net} {k : Int} (h : ¬ (0 ≤ k ∧ k < (n.progs.length : Int))) : templB n k m = false := by unfold templB; rw [decide_eq_false h]; simp
theorem prgAt_at {n : Net} {k : Nat} {x : Prg} (hx : n.progs[k]? = some x) : prgAt n (k : Int) = x := by
  unfold prgAt
  rw [Int.toNat_natCast, List.getD_eq_getElem?_getD, hx]; rfl
theorem templ_at {n m : Net} {k : Nat} {x : Prg} (h : okN n = true) (h2 : okN m = true) (hx : n.progs[k]? = some x) :
    templB n (k : Int) m = (decide (((insL m).length : Int) = x.ins) && decide (((outsL m).length : Int) = x.outs) && !(insL m).any hasT && !(outsL m).any hasT) := by
  have hk := (List.getElem?_eq_some_iff.1 hx).1
  unfold templB
  rw [h, h2, prgAt_at hx, decide_eq_true (by omega : (0 : Int) ≤ (k : Int) ∧ (k : Int) < (n.progs.length : Int))]
  simp
theorem ren_src {first : Int} (hf : 0 ≤ first) {n : Net} (h : okN n = true) {l : Lnk} (hl : l ∈ n.links) : decide ((renL (fun x => first + x) l).src = outE) = decide (l.src = outE) ∧ decide ((renL (fun x => first + x) l).tgt = outE) = decide (l.tgt = outE) := by
  have q := frm_of h hl
  unfold renL
  constructor
  · by_cases hs : l.src = outE
    · rw [decide_eq_true hs, if_pos hs]; exact decide_eq_true hs
    · rw [decide_eq_false hs, if_neg hs]
      refine decide_eq_false (fun e => ?_)
      have e1 : first + l.frm = -1 := congrArg Prod.fst e
      rcases q.1 with ⟨q1, _⟩ | ⟨_, q2, _⟩
      · exact hs q1
      · omega
  · by_cases hs : l.tgt = outE
    · rw [decide_eq_true hs, if_pos hs]; exact decide_eq_true hs
    · rw [decide_eq_false hs, if_neg hs]
      refine decide_eq_false (fun e => ?_)
      have e1 : first + l.to = -1 := congrArg Prod.fst e
      rcases q.2 with ⟨q1, _⟩ | ⟨_, q2, _⟩
      · exact hs q1
      · omega
theorem filter_ren {f : Lnk → Lnk} {p : Lnk → Bool} {ls : List Lnk} (h : ∀ l ∈ ls, p (f l) = p l) : (ls.map f).filter p = (ls.filter p).map f := by
  rw [List.filter_map]
  congr 1
  exact List.filter_congr (fun l hl => h l hl)
theorem ptI_eq {first : Int} (hf : 0 ≤ first) {m : Net} (h : okN m = true) : ptI first m = (insL m).map (renL (fun x => first + x)) :=
  filter_ren (fun l hl => by unfold isInB; exact (ren_src hf h hl).1)
theorem ptO_eq {first : Int} (hf : 0 ≤ first) {m : Net} (h : okN m = true) : ptO first m = (outsL m).map (renL (fun x => first + x)) :=
  filter_ren (fun l hl => by unfold isOutB; rw [(ren_src hf h hl).1, (ren_src hf h hl).2])
theorem ptN_eq {first : Int} (hf : 0 ≤ first) {m : Net} (h : okN m = true) : ptN first m = (innL m).map (renL (fun x => first + x)) :=
  filter_ren (fun l hl => by unfold isMidB; rw [(ren_src hf h hl).1, (ren_src hf h hl).2])
theorem any_ren (f : Int → Int) (ls : List Lnk) : (ls.map (renL f)).any hasT = ls.any hasT := by
  rw [List.any_map]; rfl
theorem wf_sh {first : Int} (hf : 0 ≤ first ∧ first ≤ 1000) {m : Net} (h : okN m = true) : ∀ l ∈ shL first m.links, wfL l := by
  intro l hl
  obtain ⟨l0, h0, rfl⟩ := List.mem_map.1 hl
  have q := wf_okN h l0 h0
  have r := frm_of h h0
  have hlen := (okN_len h).1
  unfold wfL wfE Lnk.src Lnk.tgt wfI at q ⊢
  unfold renL
  simp only [] at q ⊢
  refine ⟨⟨?_, q.1.2⟩, ⟨?_, q.2.2⟩⟩
  · split
    · exact q.1.1
    · next hs => rcases r.1 with ⟨q1, _⟩ | ⟨_, q2, q3⟩
                 · exact absurd q1 hs
                 · omega
  · split
    · exact q.2.1
    · next hs => rcases r.2 with ⟨q1, _⟩ | ⟨_, q2, q3⟩
                 · exact absurd q1 hs
                 · omega
theorem in_frm {m : Net} (h : okN m = true) {l : Lnk} (hl : l ∈ m.links) : (l.frm == -1) = isInB l ∧ (l.to == -1) = isOutB l := by
  have q := frm_of h hl
  obtain ⟨_, h2, _, _⟩ := (okN_iff m).1 h
  have hlk := (h2 l hl).1
  unfold linkL at hlk
  rw [Bool.and_eq_true] at hlk
  unfold isInB isOutB
  constructor
  · rcases q.1 with ⟨q1, q2⟩ | ⟨q1, q2, _⟩
    · rw [decide_eq_true q1, q2]; rfl
    · rw [decide_eq_false q1]; simp; omega
  · rcases q.2 with ⟨q1, q2⟩ | ⟨q1, q2, _⟩
    · have hs : ¬ l.src = outE := fun e => by
        have := hlk.2
        rw [decide_eq_true e, decide_eq_true q1] at this
        cases this
      rw [decide_eq_true q1, decide_eq_false hs, q2]; rfl
    · rw [decide_eq_false q1]; simp; omega
end Go.Proofs.Ytkeoefbkeommhaa
