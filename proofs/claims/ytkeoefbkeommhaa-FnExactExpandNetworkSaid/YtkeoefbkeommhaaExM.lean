/-
  Networks that grow: the mathematics. No statement of the seat is proved here.
-/
import Derived.Test.YtkeoefbkeommhaaTmM
import Derived.Test.YtkeoefbkeommhaaTmH
namespace Go.Proofs.Ytkeoefbkeommhaa
open Go.RowKit

def lnkZ : Lnk := ⟨0, 0, 0, 0, []⟩
/-- Where the links from and to the process that grows come from and lead. -/
def grS (b : Int) (m : Net) : Int → End := fun p => ((ptO b m).getD p.toNat lnkZ).src
def grT (b : Int) (m : Net) : Int → End := fun p => ((ptI b m).getD p.toNat lnkZ).tgt
def baseI (n : Net) : Int := (n.progs.length : Int) - 1
def expL (n : Net) (k : Nat) (m : Net) : List Lnk := n.links.map (repL k (grS (baseI n) m) (grT (baseI n) m)) ++ ptN (baseI n) m
def expN (n : Net) (k : Nat) (m : Net) : Net := ⟨n.progs.eraseIdx k ++ m.progs, expL n k m⟩
def expB (n : Net) (k : Int) (m : Net) : Bool := templB n k m && okN (expN n k.toNat m)
def expandNetworkR0 (n : Net) (k : Int) (m : Net) : Net := if expB n k m then expN n k.toNat m else ⟨[], []⟩
theorem exp_no {n m : Net} {k : Int} (h : expB n k m = false) : expandNetworkR0 n k m = ⟨[], []⟩ := by unfold expandNetworkR0; rw [h]; rfl
theorem exp_yes {n m : Net} {k : Int} (h : expB n k m = true) : expandNetworkR0 n k m = expN n k.toNat m := by unfold expandNetworkR0; rw [h]; rfl
theorem expB_no {n m : Net} {k : Int} (h : templB n k m = false) : expB n k m = false := by unfold expB; rw [h]; rfl
theorem expB_yes {n m : Net} {k : Int} (h : templB n k m = true) : expB n k m = okN (expN n k.toNat m) := by unfold expB; rw [h]; rfl
theorem exp_bdN (n : Net) (k : Int) (m : Net) : szN (expandNetworkR0 n k m) ≤ 50000 := by
  cases h : expB n k m with
  | false => rw [exp_no h]; decide
  | true =>
    rw [exp_yes h]
    unfold expB at h
    rw [Bool.and_eq_true] at h
    exact ok_szN h.2
/-- What a template is. -/
theorem templ_parts {n m : Net} {k : Int} (h : templB n k m = true) : okN n = true ∧ okN m = true ∧ (0 ≤ k ∧ k < (n.progs.length : Int)) ∧ ((insL m).length : Int) = (prgAt n k).ins ∧ ((outsL m).length : Int) = (prgAt n k).outs := by
  unfold templB at h
  simp only [Bool.and_eq_true, decide_eq_true_eq] at h
  exact ⟨h.1.1.1.1.1.1, h.1.1.1.1.1.2, h.1.1.1.1.2, h.1.1.1.2, h.1.1.2⟩
theorem port_in {f : Prg → Int} {ps : List Prg} {k : Nat} {x : Prg} {p : Int} (hx : ps[k]? = some x) (h : ((k : Int), p) ∈ ports f ps) : 0 ≤ p ∧ p < f x := by
  obtain ⟨i, q, hq, h1, h2, h3⟩ := mem_ports.1 h
  have e : i = k := by simp only [] at h1; omega
  subst e
  rw [hx] at hq
  obtain rfl := Option.some.inj hq
  exact ⟨h2, h3⟩
/-- The link of the template that takes the place of a port of the process that grows. -/
theorem out_link {n m : Net} {k : Nat} {l : Lnk} (h : templB n (k : Int) m = true) (hl : l ∈ n.links) (hk : l.frm = (k : Int)) : 0 ≤ l.out ∧ ∃ o, (outsL m)[l.out.toNat]? = some o ∧ o ∈ m.links ∧ o.src ≠ outE := by
  obtain ⟨h1, h2, h3, _, h5⟩ := templ_parts h
  obtain ⟨_, g2, _, _⟩ := (okN_iff n).1 h1
  have hkl : k < n.progs.length := by omega
  have hx : n.progs[k]? = some n.progs[k] := List.getElem?_eq_getElem hkl
  rw [prgAt_at hx] at h5
  rcases (g2 l hl).2.1 with e | e
  · have : l.frm = -1 := congrArg Prod.fst e
    omega
  · rw [show l.src = ((k : Int), l.out) by unfold Lnk.src; rw [hk]] at e
    have q := port_in hx e
    refine ⟨q.1, ?_⟩
    have hlt : l.out.toNat < (outsL m).length := by omega
    refine ⟨(outsL m)[l.out.toNat], List.getElem?_eq_getElem hlt, ?_, ?_⟩
    · exact (List.mem_filter.1 (List.getElem_mem hlt)).1
    · have q2 := (List.mem_filter.1 (List.getElem_mem hlt)).2
      unfold isOutB at q2
      rw [Bool.and_eq_true] at q2
      intro e2
      rw [decide_eq_true e2] at q2
      cases q2.1
theorem in_link {n m : Net} {k : Nat} {l : Lnk} (h : templB n (k : Int) m = true) (hl : l ∈ n.links) (hk : l.to = (k : Int)) : 0 ≤ l.inn ∧ ∃ o, (insL m)[l.inn.toNat]? = some o ∧ o ∈ m.links ∧ o.tgt ≠ outE := by
  obtain ⟨h1, h2, h3, h4, _⟩ := templ_parts h
  obtain ⟨_, g2, _, _⟩ := (okN_iff n).1 h1
  obtain ⟨_, m2, _, _⟩ := (okN_iff m).1 h2
  have hkl : k < n.progs.length := by omega
  have hx : n.progs[k]? = some n.progs[k] := List.getElem?_eq_getElem hkl
  rw [prgAt_at hx] at h4
  rcases (g2 l hl).2.2 with e | e
  · have : l.to = -1 := congrArg Prod.fst e
    omega
  · rw [show l.tgt = ((k : Int), l.inn) by unfold Lnk.tgt; rw [hk]] at e
    have q := port_in hx e
    refine ⟨q.1, ?_⟩
    have hlt : l.inn.toNat < (insL m).length := by omega
    have hmem := List.mem_filter.1 (List.getElem_mem hlt)
    refine ⟨(insL m)[l.inn.toNat], List.getElem?_eq_getElem hlt, hmem.1, ?_⟩
    have hlk := (m2 _ hmem.1).1
    have hs := hmem.2
    unfold linkL at hlk
    rw [Bool.and_eq_true] at hlk
    unfold isInB at hs
    intro e2
    rw [hs, decide_eq_true e2] at hlk
    cases hlk.2
theorem grS_at {n m : Net} {k : Nat} {l : Lnk} (h : templB n (k : Int) m = true) (hl : l ∈ n.links) (hk : l.frm = (k : Int)) : ∃ o, (outsL m)[l.out.toNat]? = some o ∧ o ∈ m.links ∧ (ptO (baseI n) m)[l.out.toNat]? = some (renL (fun x => baseI n + x) o) ∧ grS (baseI n) m l.out = (baseI n + o.frm, o.out) ∧ 0 ≤ o.frm := by
  obtain ⟨h1, h2, h3, _⟩ := templ_parts h
  obtain ⟨_, o, ho, hm, hs⟩ := out_link h hl hk
  have hb : 0 ≤ baseI n := by unfold baseI; omega
  have hp : (ptO (baseI n) m)[l.out.toNat]? = some (renL (fun x => baseI n + x) o) := by rw [ptO_eq hb h2, List.getElem?_map, ho]; rfl
  refine ⟨o, ho, hm, hp, ?_, ?_⟩
  · unfold grS
    rw [List.getD_eq_getElem?_getD, hp]
    show (if o.src = outE then o.frm else baseI n + o.frm, o.out) = _
    rw [if_neg hs]
  · rcases (frm_of h2 hm).1 with ⟨q, _⟩ | ⟨_, q, _⟩
    · exact absurd q hs
    · exact q
theorem grT_at {n m : Net} {k : Nat} {l : Lnk} (h : templB n (k : Int) m = true) (hl : l ∈ n.links) (hk : l.to = (k : Int)) : ∃ o, (insL m)[l.inn.toNat]? = some o ∧ o ∈ m.links ∧ (ptI (baseI n) m)[l.inn.toNat]? = some (renL (fun x => baseI n + x) o) ∧ grT (baseI n) m l.inn = (baseI n + o.to, o.inn) ∧ 0 ≤ o.to := by
  obtain ⟨h1, h2, h3, _⟩ := templ_parts h
  obtain ⟨_, o, ho, hm, hs⟩ := in_link h hl hk
  have hb : 0 ≤ baseI n := by unfold baseI; omega
  have hp : (ptI (baseI n) m)[l.inn.toNat]? = some (renL (fun x => baseI n + x) o) := by rw [ptI_eq hb h2, List.getElem?_map, ho]; rfl
  refine ⟨o, ho, hm, hp, ?_, ?_⟩
  · unfold grT
    rw [List.getD_eq_getElem?_getD, hp]
    show (if o.tgt = outE then o.to else baseI n + o.to, o.inn) = _
    rw [if_neg hs]
  · rcases (frm_of h2 hm).2 with ⟨q, _⟩ | ⟨_, q, _⟩
    · exact absurd q hs
    · exact q
/-- No link is left out. -/
theorem exp_keep {n m : Net} {k : Nat} (h : templB n (k : Int) m = true) : repLs k (grS (baseI n) m) (grT (baseI n) m) n.links = n.links.map (repL k (grS (baseI n) m) (grT (baseI n) m)) := by
  obtain ⟨h1, h2, h3, _⟩ := templ_parts h
  obtain ⟨_, g2, _, _⟩ := (okN_iff n).1 h1
  have hb : 0 ≤ baseI n := by unfold baseI; omega
  unfold repLs
  rw [List.filter_eq_self]
  intro a ha
  obtain ⟨l, hl, rfl⟩ := List.mem_map.1 ha
  apply Decidable.byContradiction
  intro hno
  obtain ⟨q1, q2⟩ := keepB_no hno
  have e1 : repE k (grS (baseI n) m) l.src = outE := q1
  have e2 : repE k (grT (baseI n) m) l.tgt = outE := q2
  have f1 : l.src = outE := by
    by_cases hs : l.frm = (k : Int)
    · obtain ⟨o, _, _, _, ho, hp⟩ := grS_at h hl hs
      rw [repE_at (e := l.src) hs] at e1
      have e3 : grS (baseI n) m l.out = outE := e1
      rw [ho] at e3
      have : baseI n + o.frm = -1 := congrArg Prod.fst e3
      omega
    · rw [repE_not (e := l.src) hs] at e1
      rcases (g2 l hl).2.1 with e | e
      · exact e
      · exact absurd (e1 ▸ ports_erase e hs) out_ports
  have f2 : l.tgt = outE := by
    by_cases hs : l.to = (k : Int)
    · obtain ⟨o, _, _, _, ho, hp⟩ := grT_at h hl hs
      rw [repE_at (e := l.tgt) hs] at e2
      have e3 : grT (baseI n) m l.inn = outE := e2
      rw [ho] at e3
      have : baseI n + o.to = -1 := congrArg Prod.fst e3
      omega
    · rw [repE_not (e := l.tgt) hs] at e2
      rcases (g2 l hl).2.2 with e | e
      · exact e
      · exact absurd (e2 ▸ ports_erase e hs) out_ports
  have hlk := (g2 l hl).1
  unfold linkL at hlk
  rw [Bool.and_eq_true, decide_eq_true f1, decide_eq_true f2] at hlk
  cases hlk.2
end Go.Proofs.Ytkeoefbkeommhaa
