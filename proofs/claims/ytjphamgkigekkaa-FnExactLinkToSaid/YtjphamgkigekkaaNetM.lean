/-
  Networks as plain data, and when one is valid. No statement of the seat is proved here.
-/
import Derived.Test.YtjphamgkigekkaaProc
namespace Go.Proofs.Ytjphamgkigekkaa
open Go.RowKit

structure Lnk where
  frm : Int
  out : Int
  to : Int
  inn : Int
  tok : List Int
structure Net where
  progs : List Prg
  links : List Lnk

/-- An end of a link: a process and a port. -/
abbrev End := Int × Int
def outE : End := (-1, 0)
def Lnk.src (l : Lnk) : End := (l.frm, l.out)
def Lnk.tgt (l : Lnk) : End := (l.to, l.inn)

/-- The ports of so many programs, from the process 'k' on. -/
def portsFrom (f : Prg → Int) : Nat → List Prg → List End
  | _, [] => []
  | k, p :: ps => ((List.range (f p).toNat).map fun (j : Nat) => ((k : Int), (j : Int))) ++ portsFrom f (k + 1) ps
def ports (f : Prg → Int) (ps : List Prg) : List End := portsFrom f 0 ps

/-- Whether the ends that are not outside are the ports that are open, each once. -/
def once : List End → List End → Bool
  | op, [] => op.isEmpty
  | op, e :: es => if e = outE then once op es else if e ∈ op then once (op.erase e) es else false

def headL (n : Net) : Bool := decide (n.progs.length ≤ 12 ∧ n.links.length ≤ 30) && n.progs.all okP
def linkL (l : Lnk) : Bool := isS l.tok && !(decide (l.src = outE) && decide (l.tgt = outE))
/-- The program's own test. -/
def okN (n : Net) : Bool := headL n && n.links.all linkL && once (ports Prg.outs n.progs) (n.links.map Lnk.src) && once (ports Prg.ins n.progs) (n.links.map Lnk.tgt)

theorem mem_portsFrom {f : Prg → Int} {e : End} : ∀ {k : Nat} {ps : List Prg}, e ∈ portsFrom f k ps ↔ ∃ i p, ps[i]? = some p ∧ e.1 = ((k + i : Nat) : Int) ∧ 0 ≤ e.2 ∧ e.2 < f p
  | k, [] => by simp [portsFrom]
  | k, p :: ps => by
    rw [portsFrom, List.mem_append, mem_portsFrom (k := k + 1) (ps := ps), List.mem_map]
    obtain ⟨a, b⟩ := e
    constructor
    · rintro (⟨j, hj, hje⟩ | ⟨i, q, h1, h2, h3⟩)
      · rw [List.mem_range] at hj
        simp only [Prod.mk.injEq] at hje
        exact ⟨0, p, rfl, by simp only []; omega, by simp only []; omega, by simp only []; omega⟩
      · exact ⟨i + 1, q, by simpa using h1, by rw [h2]; congr 1; omega, h3⟩
    · rintro ⟨i, q, h1, h2, h3, h4⟩
      simp only [] at h2 h3 h4
      rcases i with _ | i
      · left
        simp at h1
        subst h1
        exact ⟨b.toNat, by rw [List.mem_range]; omega, by simp only [Prod.mk.injEq]; omega⟩
      · right
        exact ⟨i, q, by simpa using h1, by simp only []; rw [h2]; congr 1; omega, h3, h4⟩
theorem mem_ports {f : Prg → Int} {ps : List Prg} {e : End} : e ∈ ports f ps ↔ ∃ (i : Nat) (p : Prg), ps[i]? = some p ∧ e.1 = (i : Int) ∧ 0 ≤ e.2 ∧ e.2 < f p := by
  unfold ports
  rw [mem_portsFrom]
  simp only [Nat.zero_add]
theorem out_ports {f : Prg → Int} {ps : List Prg} : outE ∉ ports f ps := by
  rw [mem_ports]
  rintro ⟨i, p, _, h, _⟩
  simp only [outE] at h
  omega
theorem ports_nodup (f : Prg → Int) : ∀ (k : Nat) (ps : List Prg), (portsFrom f k ps).Nodup
  | _, [] => List.nodup_nil
  | k, p :: ps => by
    rw [portsFrom, List.nodup_append]
    refine ⟨?_, ports_nodup f (k + 1) ps, ?_⟩
    · rw [List.nodup_iff_pairwise_ne, List.pairwise_map]
      refine (List.nodup_iff_pairwise_ne.1 List.nodup_range).imp ?_
      intro a b h e
      simp only [Prod.mk.injEq] at e
      omega
    · rintro ⟨a, b⟩ ha ⟨c, d⟩ hc he
      obtain ⟨j, _, hj⟩ := List.mem_map.1 ha
      obtain ⟨i, q, _, h2, _⟩ := mem_portsFrom.1 hc
      simp only [Prod.mk.injEq] at hj he h2
      omega

theorem once_iff : ∀ (es op : List End), op.Nodup → outE ∉ op → (once op es = true ↔ (∀ e ∈ es, e = outE ∨ e ∈ op) ∧ ∀ p ∈ op, es.count p = 1)
  | [], op, _, _ => by
    rcases op with _ | ⟨x, xs⟩
    · simp [once]
    · constructor
      · intro h; simp [once] at h
      · rintro ⟨_, h⟩; have := h x List.mem_cons_self; simp at this
  | e :: es, op, hn, ho => by
    unfold once
    by_cases h : e = outE
    · rw [if_pos h, once_iff es op hn ho]
      subst h
      constructor
      · rintro ⟨h1, h2⟩
        refine ⟨fun e he => ?_, fun p hp => ?_⟩
        · rcases List.mem_cons.1 he with rfl | he
          · exact .inl rfl
          · exact h1 e he
        · rw [List.count_cons_of_ne (fun q => ho (by rw [q]; exact hp))]
          exact h2 p hp
      · rintro ⟨h1, h2⟩
        refine ⟨fun e he => h1 e (List.mem_cons_of_mem _ he), fun p hp => ?_⟩
        have := h2 p hp
        rwa [List.count_cons_of_ne (fun q => ho (by rw [q]; exact hp))] at this
    · rw [if_neg h]
      by_cases hm : e ∈ op
      · rw [if_pos hm, once_iff es (op.erase e) (hn.erase e) (fun q => ho (List.mem_of_mem_erase q))]
        have key : ∀ p, p ∈ op.erase e ↔ p ≠ e ∧ p ∈ op := fun p => hn.mem_erase_iff
        constructor
        · rintro ⟨h1, h2⟩
          refine ⟨fun e' he => ?_, fun p hp => ?_⟩
          · rcases List.mem_cons.1 he with rfl | he
            · exact .inr hm
            · rcases h1 e' he with h | h
              · exact .inl h
              · exact .inr ((key _).1 h).2
          · by_cases q : p = e
            · subst q
              rw [List.count_cons_self]
              have : es.count p = 0 := by
                rw [List.count_eq_zero]
                intro hp'
                rcases h1 p hp' with h' | h'
                · exact h h'
                · exact ((key _).1 h').1 rfl
              omega
            · rw [List.count_cons_of_ne (fun z => q z.symm)]
              exact h2 p ((key p).2 ⟨q, hp⟩)
        · rintro ⟨h1, h2⟩
          have he0 : es.count e = 0 := by have := h2 e hm; rw [List.count_cons_self] at this; omega
          refine ⟨fun e' he => ?_, fun p hp => ?_⟩
          · rcases h1 e' (List.mem_cons_of_mem _ he) with h' | h'
            · exact .inl h'
            · refine .inr ((key _).2 ⟨?_, h'⟩)
              rintro rfl
              exact List.count_eq_zero.1 he0 he
          · have := h2 p ((key p).1 hp).2
            rwa [List.count_cons_of_ne (fun z => ((key p).1 hp).1 z.symm)] at this
      · rw [if_neg hm]
        constructor
        · intro h'; cases h'
        · rintro ⟨h1, _⟩
          rcases h1 e (List.mem_cons_self) with h' | h'
          · exact absurd h' h
          · exact absurd h' hm

/-- What the test says. -/
theorem okN_iff (n : Net) : okN n = true ↔ headL n = true ∧ (∀ l ∈ n.links, linkL l = true ∧ (l.src = outE ∨ l.src ∈ ports Prg.outs n.progs) ∧ (l.tgt = outE ∨ l.tgt ∈ ports Prg.ins n.progs)) ∧
    (∀ e ∈ ports Prg.outs n.progs, (n.links.map Lnk.src).count e = 1) ∧ (∀ e ∈ ports Prg.ins n.progs, (n.links.map Lnk.tgt).count e = 1) := by
  unfold okN
  rw [Bool.and_eq_true, Bool.and_eq_true, Bool.and_eq_true, once_iff _ (ports Prg.outs n.progs) (ports_nodup _ _ _) out_ports, once_iff _ (ports Prg.ins n.progs) (ports_nodup _ _ _) out_ports, List.all_eq_true]
  simp only [List.mem_map, forall_exists_index, and_imp, forall_apply_eq_imp_iff₂]
  constructor
  · rintro ⟨⟨⟨h1, h2⟩, h3, h4⟩, h5, h6⟩
    exact ⟨h1, fun l hl => ⟨h2 l hl, h3 l hl, h5 l hl⟩, h4, h6⟩
  · rintro ⟨h1, h2, h3, h4⟩
    exact ⟨⟨⟨h1, fun l hl => (h2 l hl).1⟩, fun l hl => (h2 l hl).2.1, h3⟩, fun l hl => (h2 l hl).2.2, h4⟩

/-- The model's look at the ends of a link. -/
def endsL (ps : List Prg) (l : Lnk) : Bool :=
  !(decide (l.frm = -1) && decide (l.to = -1)) && decide (-1 ≤ l.frm ∧ l.frm ≤ (ps.length : Int) - 1) && decide (-1 ≤ l.to ∧ l.to ≤ (ps.length : Int) - 1) &&
    decide (0 ≤ l.out ∧ l.out < (if 0 ≤ l.frm then (match ps[l.frm.toNat]? with | some p => p.outs | none => 1) else 1)) &&
    decide (0 ≤ l.inn ∧ l.inn < (if 0 ≤ l.to then (match ps[l.to.toNat]? with | some p => p.ins | none => 1) else 1))

theorem end_iff (f : Prg → Int) (ps : List Prg) (p j : Int) :
    ((-1 ≤ p ∧ p ≤ (ps.length : Int) - 1) ∧ (0 ≤ j ∧ j < (if 0 ≤ p then (match ps[p.toNat]? with | some p => f p | none => 1) else 1))) ↔ ((p, j) = outE ∨ (p, j) ∈ ports f ps) := by
  rw [mem_ports]
  simp only [outE, Prod.mk.injEq]
  constructor
  · rintro ⟨h1, h2⟩
    by_cases h : 0 ≤ p
    · rw [if_pos h] at h2
      right
      have hl : p.toNat < ps.length := by omega
      rw [List.getElem?_eq_getElem hl] at h2
      exact ⟨p.toNat, _, List.getElem?_eq_getElem hl, by omega, h2.1, h2.2⟩
    · rw [if_neg h] at h2
      left
      omega
  · rintro (⟨rfl, rfl⟩ | ⟨i, q, h1, rfl, h2, h3⟩)
    · refine ⟨by omega, by omega, ?_⟩
      rw [if_neg (by omega)]
      omega
    · have hl := (List.getElem?_eq_some_iff.1 h1).1
      refine ⟨by omega, h2, ?_⟩
      rw [if_pos (by omega), Int.toNat_natCast, h1]
      exact h3
theorem ends_iff (ps : List Prg) (l : Lnk) : endsL ps l = true ↔ ¬ (l.src = outE ∧ l.tgt = outE) ∧ (l.src = outE ∨ l.src ∈ ports Prg.outs ps) ∧ (l.tgt = outE ∨ l.tgt ∈ ports Prg.ins ps) := by
  have h1 := end_iff Prg.outs ps l.frm l.out
  have h2 := end_iff Prg.ins ps l.to l.inn
  have e1 : l.src = (l.frm, l.out) := rfl
  have e2 : l.tgt = (l.to, l.inn) := rfl
  rw [← e1] at h1
  rw [← e2] at h2
  unfold endsL
  rw [Bool.and_eq_true, Bool.and_eq_true, Bool.and_eq_true, Bool.and_eq_true, ← h1, ← h2]
  simp only [decide_eq_true_eq, Bool.not_eq_true', Bool.and_eq_false_iff, decide_eq_false_iff_not]
  rw [e1, e2]
  simp only [outE, Prod.mk.injEq]
  constructor
  · rintro ⟨⟨⟨⟨a, b⟩, c⟩, d⟩, e⟩
    exact ⟨fun q => by omega, ⟨b, d⟩, c, e⟩
  · rintro ⟨a, ⟨b, d⟩, c, e⟩
    refine ⟨⟨⟨⟨?_, b⟩, c⟩, d⟩, e⟩
    by_cases q1 : l.frm = -1
    · by_cases q2 : l.to = -1
      · rw [if_neg (by omega)] at d e
        omega
      · exact .inr q2
    · exact .inl q1

/-- How many links have the end. -/
def numE (g : Lnk → End) (ls : List Lnk) (e : End) : Nat := (ls.map g).count e
/-- The model's search: the index, -1 or -2. -/
def atE (g : Lnk → End) (ls : List Lnk) (e : End) : Int := if numE g ls e = 0 then -1 else if numE g ls e = 1 then ((ls.map g).idxOf e : Int) else -2
theorem atE_nonneg (g : Lnk → End) (ls : List Lnk) (e : End) : 0 ≤ atE g ls e ↔ numE g ls e = 1 := by
  unfold atE
  split
  · constructor
    · intro h; omega
    · intro h; omega
  · split
    · constructor
      · intro _; assumption
      · intro _; omega
    · constructor
      · intro h; omega
      · intro h; omega
/-- The model's own test. -/
def okN2 (n : Net) : Bool := headL n && n.links.all (fun l => endsL n.progs l && isS l.tok) &&
  (ports Prg.ins n.progs).all (fun e => decide (0 ≤ atE Lnk.tgt n.links e)) && (ports Prg.outs n.progs).all (fun e => decide (0 ≤ atE Lnk.src n.links e))
theorem okN2_eq (n : Net) : okN2 n = okN n := by
  rw [Bool.eq_iff_iff, okN_iff]
  unfold okN2
  rw [Bool.and_eq_true, Bool.and_eq_true, Bool.and_eq_true, List.all_eq_true, List.all_eq_true, List.all_eq_true]
  simp only [decide_eq_true_eq, atE_nonneg, Bool.and_eq_true, ends_iff]
  unfold numE linkL
  simp only [Bool.and_eq_true, Bool.not_eq_true', Bool.and_eq_false_iff, decide_eq_false_iff_not]
  constructor
  · rintro ⟨⟨⟨h1, h2⟩, h3⟩, h4⟩
    refine ⟨h1, fun l hl => ⟨⟨(h2 l hl).2, ?_⟩, (h2 l hl).1.2⟩, h4, h3⟩
    exact Classical.or_iff_not_imp_left.2 (fun q => fun q2 => (h2 l hl).1.1 ⟨Classical.not_not.1 q, q2⟩)
  · rintro ⟨h1, h2, h3, h4⟩
    refine ⟨⟨⟨h1, fun l hl => ⟨⟨?_, (h2 l hl).2⟩, (h2 l hl).1.1⟩⟩, h4⟩, h3⟩
    rintro ⟨q1, q2⟩
    rcases (h2 l hl).1.2 with q | q
    · exact q q1
    · exact q q2
theorem numE_step {g : Lnk → End} {ls : List Lnk} {k : Nat} {x : Lnk} (hx : ls[k]? = some x) (e : End) : numE g (ls.take (k + 1)) e = numE g (ls.take k) e + (if g x = e then 1 else 0) := by
  have hk := (List.getElem?_eq_some_iff.1 hx).1
  unfold numE
  rw [List.take_succ_eq_append_getElem hk, (List.getElem?_eq_some_iff.1 hx).2, List.map_append, List.count_append]
  simp [List.count_cons]
theorem atE_skip {g : Lnk → End} {ls : List Lnk} {k : Nat} {x : Lnk} {e : End} (hx : ls[k]? = some x) (h : g x ≠ e) : atE g (ls.take (k + 1)) e = atE g (ls.take k) e := by
  have hn : numE g (ls.take (k + 1)) e = numE g (ls.take k) e := by
    have := numE_step (g := g) hx e
    rw [if_neg h] at this
    omega
  have hk := (List.getElem?_eq_some_iff.1 hx).1
  unfold atE
  rw [hn]
  by_cases h1 : numE g (ls.take k) e = 0
  · rw [if_pos h1, if_pos h1]
  · rw [if_neg h1, if_neg h1]
    by_cases h2 : numE g (ls.take k) e = 1
    · rw [if_pos h2, if_pos h2, List.take_succ_eq_append_getElem hk, (List.getElem?_eq_some_iff.1 hx).2, List.map_append, List.idxOf_append, if_pos (List.count_pos_iff.1 (by unfold numE at h2; omega))]
    · rw [if_neg h2, if_neg h2]
theorem atE_hit {g : Lnk → End} {ls : List Lnk} {k : Nat} {x : Lnk} {e : End} (hx : ls[k]? = some x) (h : g x = e) (h0 : atE g (ls.take k) e = -1) : atE g (ls.take (k + 1)) e = k := by
  have hn := numE_step (g := g) hx e
  rw [if_pos h] at hn
  have hk := (List.getElem?_eq_some_iff.1 hx).1
  have hz : numE g (ls.take k) e = 0 := by
    unfold atE at h0
    split at h0
    · assumption
    · split at h0 <;> omega
  unfold atE
  rw [hn, hz, if_neg (by omega), if_pos (by omega)]
  rw [List.take_succ_eq_append_getElem hk, (List.getElem?_eq_some_iff.1 hx).2, List.map_append, List.idxOf_append, if_neg (by unfold numE at hz; exact List.count_eq_zero.1 hz)]
  subst h
  simp
  omega
theorem numE_mono {g : Lnk → End} (ls : List Lnk) (k : Nat) (e : End) : numE g (ls.take k) e ≤ numE g ls e := by
  unfold numE
  conv => rhs; rw [← List.take_append_drop k ls, List.map_append, List.count_append]
  omega
theorem atE_two {g : Lnk → End} {ls : List Lnk} {k : Nat} {x : Lnk} {e : End} (hx : ls[k]? = some x) (h : g x = e) (h0 : 0 ≤ atE g (ls.take k) e) : atE g ls e = -2 := by
  have hn := numE_step (g := g) hx e
  rw [if_pos h] at hn
  have hz := (atE_nonneg g (ls.take k) e).1 h0
  have := numE_mono (g := g) ls (k + 1) e
  unfold atE
  rw [if_neg (by omega), if_neg (by omega)]
theorem atE_lo (g : Lnk → End) (ls : List Lnk) (e : End) : -2 ≤ atE g ls e ∧ atE g ls e < (ls.length : Int) + 1 := by
  unfold atE
  split
  · omega
  · split
    · have := List.idxOf_le_length (l := ls.map g) (a := e)
      rw [List.length_map] at this
      omega
    · omega
theorem atE_nil (g : Lnk → End) (e : End) : atE g [] e = -1 := by simp [atE, numE]

/-- The ends up to the index k, of the test 'once'. -/
theorem once_all {op : List End} : once op [] = op.isEmpty := rfl
theorem once_out {op : List End} {es : List End} {k : Nat} (h : es[k]? = some outE) : once op (es.drop k) = once op (es.drop (k + 1)) := by
  have hk := (List.getElem?_eq_some_iff.1 h).1
  rw [List.drop_eq_getElem_cons hk, (List.getElem?_eq_some_iff.1 h).2, once, if_pos rfl]
theorem once_not {op : List End} {es : List End} {k : Nat} {e : End} (h : es[k]? = some e) (h1 : e ≠ outE) (h2 : e ∉ op) : once op (es.drop k) = false := by
  have hk := (List.getElem?_eq_some_iff.1 h).1
  rw [List.drop_eq_getElem_cons hk, (List.getElem?_eq_some_iff.1 h).2, once, if_neg h1, if_neg h2]
theorem once_take {op : List End} {es : List End} {k : Nat} {e : End} (h : es[k]? = some e) (h1 : e ≠ outE) (h2 : e ∈ op) : once op (es.drop k) = once (op.erase e) (es.drop (k + 1)) := by
  have hk := (List.getElem?_eq_some_iff.1 h).1
  rw [List.drop_eq_getElem_cons hk, (List.getElem?_eq_some_iff.1 h).2, once, if_neg h1, if_pos h2]
end Go.Proofs.Ytjphamgkigekkaa
