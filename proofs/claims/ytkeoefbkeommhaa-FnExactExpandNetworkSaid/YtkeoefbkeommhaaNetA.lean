/-
  Networks as plain data, and when one is valid. No statement of the seat is proved here.
  A map whose keys are ends of links, as a list of ends. No statement of the seat is proved here.
  What a network that came in reads as, and the small functions on links. No statement of the seat is proved here.
-/
import Derived.Test.YtkeoefbkeommhaaPrw
import Derived.Maps.OwnSet
import Derived.Maps.Views
import Derived.DeepKeys4
import Derived.Test.YtkeoefbkeommhaaIsP
import Derived.Test.YtkeoefbkeommhaaOpb
namespace Go.Proofs.Ytkeoefbkeommhaa
open Go.RowKit

structure Lnk where
  frm : Int
  out : Int
  to : Int
  inn : Int
  tok : List Int
structure Net where
  progs : List Prg
  links : List Lnk

/-- An end of a link: a process and a port. -/
abbrev End := Int × Int
def outE : End := (-1, 0)
def Lnk.src (l : Lnk) : End := (l.frm, l.out)
def Lnk.tgt (l : Lnk) : End := (l.to, l.inn)

/-- The ports of so many programs, from the process 'k' on. -/
def portsFrom (f : Prg → Int) : Nat → List Prg → List End
  | _, [] => []
  | k, p :: ps => ((List.range (f p).toNat).map fun (j : Nat) => ((k : Int), (j : Int))) ++ portsFrom f (k + 1) ps
def ports (f : Prg → Int) (ps : List Prg) : List End := portsFrom f 0 ps

/-- Whether the ends that are not outside are the ports that are open, each once. -/
def once : List End → List End → Bool
  | op, [] => op.isEmpty
  | op, e :: es => if e = outE then once op es else if e ∈ op then once (op.erase e) es else false

def headL (n : Net) : Bool := decide (n.progs.length ≤ 12 ∧ n.links.length ≤ 30) && n.progs.all okP
def linkL (l : Lnk) : Bool := isS l.tok && !(decide (l.src = outE) && decide (l.tgt = outE))
/-- The program's own test. -/
def okN (n : Net) : Bool := headL n && n.links.all linkL && once (ports Prg.outs n.progs) (n.links.map Lnk.src) && once (ports Prg.ins n.progs) (n.links.map Lnk.tgt)

theorem mem_portsFrom {f : Prg → Int} {e : End} : ∀ {k : Nat} {ps : List Prg}, e ∈ portsFrom f k ps ↔ ∃ i p, ps[i]? = some p ∧ e.1 = ((k + i : Nat) : Int) ∧ 0 ≤ e.2 ∧ e.2 < f p
  | k, [] => by simp [portsFrom]
  | k, p :: ps => by
    rw [portsFrom, List.mem_append, mem_portsFrom (k := k + 1) (ps := ps), List.mem_map]
    obtain ⟨a, b⟩ := e
    constructor
    · rintro (⟨j, hj, hje⟩ | ⟨i, q, h1, h2, h3⟩)
      · rw [List.mem_range] at hj
        simp only [Prod.mk.injEq] at hje
        exact ⟨0, p, rfl, by simp only []; omega, by simp only []; omega, by simp only []; omega⟩
      · exact ⟨i + 1, q, by simpa using h1, by rw [h2]; congr 1; omega, h3⟩
    · rintro ⟨i, q, h1, h2, h3, h4⟩
      simp only [] at h2 h3 h4
      rcases i with _ | i
      · left
        simp at h1
        subst h1
        exact ⟨b.toNat, by rw [List.mem_range]; omega, by simp only [Prod.mk.injEq]; omega⟩
      · right
        exact ⟨i, q, by simpa using h1, by simp only []; rw [h2]; congr 1; omega, h3, h4⟩
theorem mem_ports {f : Prg → Int} {ps : List Prg} {e : End} : e ∈ ports f ps ↔ ∃ (i : Nat) (p : Prg), ps[i]? = some p ∧ e.1 = (i : Int) ∧ 0 ≤ e.2 ∧ e.2 < f p := by
  unfold ports
  rw [mem_portsFrom]
  simp only [Nat.zero_add]
theorem out_ports {f : Prg → Int} {ps : List Prg} : outE ∉ ports f ps := by
  rw [mem_ports]
  rintro ⟨i, p, _, h, _⟩
  simp only [outE] at h
  omega
theorem ports_nodup (f : Prg → Int) : ∀ (k : Nat) (ps : List Prg), (portsFrom f k ps).Nodup
  | _, [] => List.nodup_nil
  | k, p :: ps => by
    rw [portsFrom, List.nodup_append]
    refine ⟨?_, ports_nodup f (k + 1) ps, ?_⟩
    · rw [List.nodup_iff_pairwise_ne, List.pairwise_map]
      refine (List.nodup_iff_pairwise_ne.1 List.nodup_range).imp ?_
      intro a b h e
      simp only [Prod.mk.injEq] at e
      omega
    · rintro ⟨a, b⟩ ha ⟨c, d⟩ hc he
      obtain ⟨j, _, hj⟩ := List.mem_map.1 ha
      obtain ⟨i, q, _, h2, _⟩ := mem_portsFrom.1 hc
      simp only [Prod.mk.injEq] at hj he h2
      omega

theorem once_iff : ∀ (es op : List End), op.Nodup → outE ∉ op → (once op es = true ↔ (∀ e ∈ es, e = outE ∨ e ∈ op) ∧ ∀ p ∈ op, es.count p = 1)
  | [], op, _, _ => by
    rcases op with _ | ⟨x, xs⟩
    · simp [once]
    · constructor
      · intro h; simp [once] at h
      · rintro ⟨_, h⟩; have := h x List.mem_cons_self; simp at this
  | e :: es, op, hn, ho => by
    unfold once
    by_cases h : e = outE
    · rw [if_pos h, once_iff es op hn ho]
      subst h
      constructor
      · rintro ⟨h1, h2⟩
        refine ⟨fun e he => ?_, fun p hp => ?_⟩
        · rcases List.mem_cons.1 he with rfl | he
          · exact .inl rfl
          · exact h1 e he
        · rw [List.count_cons_of_ne (fun q => ho (by rw [q]; exact hp))]
          exact h2 p hp
      · rintro ⟨h1, h2⟩
        refine ⟨fun e he => h1 e (List.mem_cons_of_mem _ he), fun p hp => ?_⟩
        have := h2 p hp
        rwa [List.count_cons_of_ne (fun q => ho (by rw [q]; exact hp))] at this
    · rw [if_neg h]
      by_cases hm : e ∈ op
      · rw [if_pos hm, once_iff es (op.erase e) (hn.erase e) (fun q => ho (List.mem_of_mem_erase q))]
        have key : ∀ p, p ∈ op.erase e ↔ p ≠ e ∧ p ∈ op := fun p => hn.mem_erase_iff
        constructor
        · rintro ⟨h1, h2⟩
          refine ⟨fun e' he => ?_, fun p hp => ?_⟩
          · rcases List.mem_cons.1 he with rfl | he
            · exact .inr hm
            · rcases h1 e' he with h | h
              · exact .inl h
              · exact .inr ((key _).1 h).2
          · by_cases q : p = e
            · subst q
              rw [List.count_cons_self]
              have : es.count p = 0 := by
                rw [List.count_eq_zero]
                intro hp'
                rcases h1 p hp' with h' | h'
                · exact h h'
                · exact ((key _).1 h').1 rfl
              omega
            · rw [List.count_cons_of_ne (fun z => q z.symm)]
              exact h2 p ((key p).2 ⟨q, hp⟩)
        · rintro ⟨h1, h2⟩
          have he0 : es.count e = 0 := by have := h2 e hm; rw [List.count_cons_self] at this; omega
          refine ⟨fun e' he => ?_, fun p hp => ?_⟩
          · rcases h1 e' (List.mem_cons_of_mem _ he) with h' | h'
            · exact .inl h'
            · refine .inr ((key _).2 ⟨?_, h'⟩)
              rintro rfl
              exact List.count_eq_zero.1 he0 he
          · have := h2 p ((key p).1 hp).2
            rwa [List.count_cons_of_ne (fun z => ((key p).1 hp).1 z.symm)] at this
      · rw [if_neg hm]
        constructor
        · intro h'; cases h'
        · rintro ⟨h1, _⟩
          rcases h1 e (List.mem_cons_self) with h' | h'
          · exact absurd h' h
          · exact absurd h' hm

/-- What the test says. -/
theorem okN_iff (n : Net) : okN n = true ↔ headL n = true ∧ (∀ l ∈ n.links, linkL l = true ∧ (l.src = outE ∨ l.src ∈ ports Prg.outs n.progs) ∧ (l.tgt = outE ∨ l.tgt ∈ ports Prg.ins n.progs)) ∧
    (∀ e ∈ ports Prg.outs n.progs, (n.links.map Lnk.src).count e = 1) ∧ (∀ e ∈ ports Prg.ins n.progs, (n.links.map Lnk.tgt).count e = 1) := by
  unfold okN
  rw [Bool.and_eq_true, Bool.and_eq_true, Bool.and_eq_true, once_iff _ (ports Prg.outs n.progs) (ports_nodup _ _ _) out_ports, once_iff _ (ports Prg.ins n.progs) (ports_nodup _ _ _) out_ports, List.all_eq_true]
  simp only [List.mem_map, forall_exists_index, and_imp, forall_apply_eq_imp_iff₂]
  constructor
  · rintro ⟨⟨⟨h1, h2⟩, h3, h4⟩, h5, h6⟩
    exact ⟨h1, fun l hl => ⟨h2 l hl, h3 l hl, h5 l hl⟩, h4, h6⟩
  · rintro ⟨h1, h2, h3, h4⟩
    exact ⟨⟨⟨h1, fun l hl => (h2 l hl).1⟩, fun l hl => (h2 l hl).2.1, h3⟩, fun l hl => (h2 l hl).2.2, h4⟩

/-- The model's look at the ends of a link. -/
def endsL (ps : List Prg) (l : Lnk) : Bool :=
  !(decide (l.frm = -1) && decide (l.to = -1)) && decide (-1 ≤ l.frm ∧ l.frm ≤ (ps.length : Int) - 1) && decide (-1 ≤ l.to ∧ l.to ≤ (ps.length : Int) - 1) &&
    decide (0 ≤ l.out ∧ l.out < (if 0 ≤ l.frm then (match ps[l.frm.toNat]? with | some p => p.outs | none => 1) else 1)) &&
    decide (0 ≤ l.inn ∧ l.inn < (if 0 ≤ l.to then (match ps[l.to.toNat]? with | some p => p.ins | none => 1) else 1))

theorem end_iff (f : Prg → Int) (ps : List Prg) (p j : Int) :
    ((-1 ≤ p ∧ p ≤ (ps.length : Int) - 1) ∧ (0 ≤ j ∧ j < (if 0 ≤ p then (match ps[p.toNat]? with | some p => f p | none => 1) else 1))) ↔ ((p, j) = outE ∨ (p, j) ∈ ports f ps) := by
  rw [mem_ports]
  simp only [outE, Prod.mk.injEq]
  constructor
  · rintro ⟨h1, h2⟩
    by_cases h : 0 ≤ p
    · rw [if_pos h] at h2
      right
      have hl : p.toNat < ps.length := by omega
      rw [List.getElem?_eq_getElem hl] at h2
      exact ⟨p.toNat, _, List.getElem?_eq_getElem hl, by omega, h2.1, h2.2⟩
    · rw [if_neg h] at h2
      left
      omega
  · rintro (⟨rfl, rfl⟩ | ⟨i, q, h1, rfl, h2, h3⟩)
    · refine ⟨by omega, by omega, ?_⟩
      rw [if_neg (by omega)]
      omega
    · have hl := (List.getElem?_eq_some_iff.1 h1).1
      refine ⟨by omega, h2, ?_⟩
      rw [if_pos (by omega), Int.toNat_natCast, h1]
      exact h3
theorem ends_iff (ps : List Prg) (l : Lnk) : endsL ps l = true ↔ ¬ (l.src = outE ∧ l.tgt = outE) ∧ (l.src = outE ∨ l.src ∈ ports Prg.outs ps) ∧ (l.tgt = outE ∨ l.tgt ∈ ports Prg.ins ps) := by
  have h1 := end_iff Prg.outs ps l.frm l.out
  have h2 := end_iff Prg.ins ps l.to l.inn
  have e1 : l.src = (l.frm, l.out) := rfl
  have e2 : l.tgt = (l.to, l.inn) := rfl
  rw [← e1] at h1
  rw [← e2] at h2
  unfold endsL
  rw [Bool.and_eq_true, Bool.and_eq_true, Bool.and_eq_true, Bool.and_eq_true, ← h1, ← h2]
  simp only [decide_eq_true_eq, Bool.not_eq_true', Bool.and_eq_false_iff, decide_eq_false_iff_not]
  rw [e1, e2]
  simp only [outE, Prod.mk.injEq]
  constructor
  · rintro ⟨⟨⟨⟨a, b⟩, c⟩, d⟩, e⟩
    exact ⟨fun q => by omega, ⟨b, d⟩, c, e⟩
  · rintro ⟨a, ⟨b, d⟩, c, e⟩
    refine ⟨⟨⟨⟨?_, b⟩, c⟩, d⟩, e⟩
    by_cases q1 : l.frm = -1
    · by_cases q2 : l.to = -1
      · rw [if_neg (by omega)] at d e
        omega
      · exact .inr q2
    · exact .inl q1

/-- How many links have the end. -/
def numE (g : Lnk → End) (ls : List Lnk) (e : End) : Nat := (ls.map g).count e
/-- The model's search: the index, -1 or -2. -/
def atE (g : Lnk → End) (ls : List Lnk) (e : End) : Int := if numE g ls e = 0 then -1 else if numE g ls e = 1 then ((ls.map g).idxOf e : Int) else -2
theorem atE_nonneg (g : Lnk → End) (ls : List Lnk) (e : End) : 0 ≤ atE g ls e ↔ numE g ls e = 1 := by
  unfold atE
  split
  · constructor
    · intro h; omega
    · intro h; omega
  · split
    · constructor
      · intro _; assumption
      · intro _; omega
    · constructor
      · intro h; omega
      · intro h; omega
/-- The model's own test. -/
def okN2 (n : Net) : Bool := headL n && n.links.all (fun l => endsL n.progs l && isS l.tok) &&
  (ports Prg.ins n.progs).all (fun e => decide (0 ≤ atE Lnk.tgt n.links e)) && (ports Prg.outs n.progs).all (fun e => decide (0 ≤ atE Lnk.src n.links e))
theorem okN2_eq (n : Net) : okN2 n = okN n := by
  rw [Bool.eq_iff_iff, okN_iff]
  unfold okN2
  rw [Bool.and_eq_true, Bool.and_eq_true, Bool.and_eq_true, List.all_eq_true, List.all_eq_true, List.all_eq_true]
  simp only [decide_eq_true_eq, atE_nonneg, Bool.and_eq_true, ends_iff]
  unfold numE linkL
  simp only [Bool.and_eq_true, Bool.not_eq_true', Bool.and_eq_false_iff, decide_eq_false_iff_not]
  constructor
  · rintro ⟨⟨⟨h1, h2⟩, h3⟩, h4⟩
    refine ⟨h1, fun l hl => ⟨⟨(h2 l hl).2, ?_⟩, (h2 l hl).1.2⟩, h4, h3⟩
    exact Classical.or_iff_not_imp_left.2 (fun q => fun q2 => (h2 l hl).1.1 ⟨Classical.not_not.1 q, q2⟩)
  · rintro ⟨h1, h2, h3, h4⟩
    refine ⟨⟨⟨h1, fun l hl => ⟨⟨?_, (h2 l hl).2⟩, (h2 l hl).1.1⟩⟩, h4⟩, h3⟩
    rintro ⟨q1, q2⟩
    rcases (h2 l hl).1.2 with q | q
    · exact q q1
    · exact q q2
theorem numE_step {g : Lnk → End} {ls : List Lnk} {k : Nat} {x : Lnk} (hx : ls[k]? = some x) (e : End) : numE g (ls.take (k + 1)) e = numE g (ls.take k) e + (if g x = e then 1 else 0) := by
  have hk := (List.getElem?_eq_some_iff.1 hx).1
  unfold numE
  rw [List.take_succ_eq_append_getElem hk, (List.getElem?_eq_some_iff.1 hx).2, List.map_append, List.count_append]
  simp [List.count_cons]
theorem atE_skip {g : Lnk → End} {ls : List Lnk} {k : Nat} {x : Lnk} {e : End} (hx : ls[k]? = some x) (h : g x ≠ e) : atE g (ls.take (k + 1)) e = atE g (ls.take k) e := by
  have hn : numE g (ls.take (k + 1)) e = numE g (ls.take k) e := by
    have := numE_step (g := g) hx e
    rw [if_neg h] at this
    omega
  have hk := (List.getElem?_eq_some_iff.1 hx).1
  unfold atE
  rw [hn]
  by_cases h1 : numE g (ls.take k) e = 0
  · rw [if_pos h1, if_pos h1]
  · rw [if_neg h1, if_neg h1]
    by_cases h2 : numE g (ls.take k) e = 1
    · rw [if_pos h2, if_pos h2, List.take_succ_eq_append_getElem hk, (List.getElem?_eq_some_iff.1 hx).2, List.map_append, List.idxOf_append, if_pos (List.count_pos_iff.1 (by unfold numE at h2; omega))]
    · rw [if_neg h2, if_neg h2]
theorem atE_hit {g : Lnk → End} {ls : List Lnk} {k : Nat} {x : Lnk} {e : End} (hx : ls[k]? = some x) (h : g x = e) (h0 : atE g (ls.take k) e = -1) : atE g (ls.take (k + 1)) e = k := by
  have hn := numE_step (g := g) hx e
  rw [if_pos h] at hn
  have hk := (List.getElem?_eq_some_iff.1 hx).1
  have hz : numE g (ls.take k) e = 0 := by
    unfold atE at h0
    split at h0
    · assumption
    · split at h0 <;> omega
  unfold atE
  rw [hn, hz, if_neg (by omega), if_pos (by omega)]
  rw [List.take_succ_eq_append_getElem hk, (List.getElem?_eq_some_iff.1 hx).2, List.map_append, List.idxOf_append, if_neg (by unfold numE at hz; exact List.count_eq_zero.1 hz)]
  subst h
  simp
  omega
theorem numE_mono {g : Lnk → End} (ls : List Lnk) (k : Nat) (e : End) : numE g (ls.take k) e ≤ numE g ls e := by
  unfold numE
  conv => rhs; rw [← List.take_append_drop k ls, List.map_append, List.count_append]
  omega
theorem atE_two {g : Lnk → End} {ls : List Lnk} {k : Nat} {x : Lnk} {e : End} (hx : ls[k]? = some x) (h : g x = e) (h0 : 0 ≤ atE g (ls.take k) e) : atE g ls e = -2 := by
  have hn := numE_step (g := g) hx e
  rw [if_pos h] at hn
  have hz := (atE_nonneg g (ls.take k) e).1 h0
  have := numE_mono (g := g) ls (k + 1) e
  unfold atE
  rw [if_neg (by omega), if_neg (by omega)]
theorem atE_lo (g : Lnk → End) (ls : List Lnk) (e : End) : -2 ≤ atE g ls e ∧ atE g ls e < (ls.length : Int) + 1 := by
  unfold atE
  split
  · omega
  · split
    · have := List.idxOf_le_length (l := ls.map g) (a := e)
      rw [List.length_map] at this
      omega
    · omega
theorem atE_nil (g : Lnk → End) (e : End) : atE g [] e = -1 := by simp [atE, numE]

/-- The ends up to the index k, of the test 'once'. -/
theorem once_all {op : List End} : once op [] = op.isEmpty := rfl
theorem once_out {op : List End} {es : List End} {k : Nat} (h : es[k]? = some outE) : once op (es.drop k) = once op (es.drop (k + 1)) := by
  have hk := (List.getElem?_eq_some_iff.1 h).1
  rw [List.drop_eq_getElem_cons hk, (List.getElem?_eq_some_iff.1 h).2, once, if_pos rfl]
theorem once_not {op : List End} {es : List End} {k : Nat} {e : End} (h : es[k]? = some e) (h1 : e ≠ outE) (h2 : e ∉ op) : once op (es.drop k) = false := by
  have hk := (List.getElem?_eq_some_iff.1 h).1
  rw [List.drop_eq_getElem_cons hk, (List.getElem?_eq_some_iff.1 h).2, once, if_neg h1, if_neg h2]
theorem once_take {op : List End} {es : List End} {k : Nat} {e : End} (h : es[k]? = some e) (h1 : e ≠ outE) (h2 : e ∈ op) : once op (es.drop k) = once (op.erase e) (es.drop (k + 1)) := by
  have hk := (List.getElem?_eq_some_iff.1 h).1
  rw [List.drop_eq_getElem_cons hk, (List.getElem?_eq_some_iff.1 h).2, once, if_neg h1, if_pos h2]

theorem le_row : (133 : TypeId) < Try.prog.types.size := of_decide_eq_true (by kernel_rfl)
set_option maxRecDepth 100000 in
theorem le_wide : (match Try.prog.underlying 133 with | some (.array _ _) | some (.struct _) => true | _ => false) = true := by rw [Try.underlying133]
theorem le_laid : laidOutB Try.prog = true := by kernel_rfl
theorem le_key : Try.prog.keyTypeAt 2 133 = true := by kernel_rfl
set_option maxRecDepth 100000 in
theorem le_klaw : WideMaps.KeyLaw Try.prog 133 := deep_law_laid le_laid (m := 2) (by omega) le_row le_key (by rw [Try.underlying133])
theorem le_law : Maps.Keyed Try.prog 133 := Maps.Keyed.of_law le_klaw
theorem le_cells : Try.prog.cellsOf 133 = 2 := by kernel_rfl
theorem le_int : Try.prog.cellsOf 3 = 1 := by kernel_rfl
theorem le_kt : Try.prog.keyType 133 = true := by kernel_rfl
theorem le_size : ∃ m, Try.prog.types.size = m + 1 := ⟨Try.prog.types.size - 1, by have h : (133 : Nat) < Try.prog.types.size := le_row; omega⟩
theorem le_bool (w : World) : (zeroValue 4).run Try.prog w = .ok (.bool false) w := by kernel_rfl

def wfI (n : Int) : Prop := -9223372036854775808 ≤ n ∧ n ≤ 9223372036854775807
def wfE (e : End) : Prop := wfI e.1 ∧ wfI e.2
def valE (e : End) : Value := .agg #[.int .i64 e.1, .int .i64 e.2]
def keyE (e : End) : Lit := .string (keyBytes [.int .i64 e.1, .int .i64 e.2])
theorem wf_lit {n : Int} (h : wfI n) : (Lit.int .i64 n).wf = true := by
  obtain ⟨h1, h2⟩ := h
  have e1 : IntKind.i64.min = -9223372036854775808 := by decide
  have e2 : IntKind.i64.max = 9223372036854775807 := by decide
  simp [Lit.wf, e1, e2]
  omega
theorem key_end {e : End} (h : wfE e) : keyOf Try.prog 133 (valE e) = some (keyE e) := by
  obtain ⟨a, b⟩ := e
  have wa := wf_lit h.1
  have wb := wf_lit h.2
  obtain ⟨m, hm⟩ := le_size
  unfold keyOf valE
  simp only [Try.underlying133]
  rw [if_pos (by simp [le_kt, Value.formed, Try.underlying133, le_cells]), hm]
  unfold Program.keyLits
  simp only [Try.underlying133, Value.cells]
  rw [if_pos ⟨by rw [le_cells]; rfl, by kernel_rfl⟩]
  simp [Program.keyLits, le_int, Try.underlying3, keyE]
  simp only [] at wa wb
  simp [wa, wb]
theorem key_inj {e f : End} (he : wfE e) (hf : wfE f) (h : keyE e = keyE f) : e = f := by
  have := le_law.inj (key_end he) (h ▸ key_end hf)
  unfold valE at this
  simp at this
  exact Prod.ext this.1 this.2

/-- The block b is a map of at most N entries whose keys are the ends S, with 'true' at each. -/
def MapIs (w : World) (b N : Nat) (S : List End) : Prop :=
  ∃ (n : Nat) (D : DataW Unit), n ≤ N ∧ w.ownsMap Try.prog 133 (plainElem Try.prog 4) b n D ∧ S.Nodup ∧ (∀ e ∈ S, wfE e) ∧ Maps.size D = S.length ∧
    ∀ e, wfE e → ∀ z, D.atKey (keyE e) z = if e ∈ S then .lit (.bool true) else z

theorem MapIs.has {S : List End} {D : DataW Unit} {e : End} (h : ∀ z, D.atKey (keyE e) z = if e ∈ S then .lit (.bool true) else z) : Maps.has D (keyE e) = decide (e ∈ S) := by
  by_cases q : e ∈ S
  · rw [decide_eq_true q]
    exact Maps.has_true_of_atKey (y := .lit (.bool true)) (fun z => by rw [h z, if_pos q])
  · rw [decide_eq_false q]
    exact Maps.has_false_of_atKey (fun z => by rw [h z, if_neg q])
theorem MapIs.lt {w : World} {b N : Nat} {S : List End} (h : MapIs w b N S) : b < w.heap.size := by
  obtain ⟨n, D, _, ho, _⟩ := h; exact ho.lt
theorem MapIs.made (w : World) : MapIs (w.alloc (.map #[] 0)) w.heap.size 0 [] :=
  ⟨0, .map [], Nat.le_refl _, World.ownsMap_made w _ _ _, List.nodup_nil, by simp, rfl, fun e _ z => by simp [DataW.atKey]⟩
theorem MapIs.below {w w' : World} {b N : Nat} {S : List End} (h : MapIs w b N S) (hb : Below w.heap.size w w') : MapIs w' b N S := by
  obtain ⟨n, D, h1, ho, h2⟩ := h
  refine ⟨n, D, h1, ?_, h2⟩
  have hl := ho.lt
  obtain ⟨es, clock, hbl, r⟩ := ho
  exact ⟨es, clock, by rw [hb.block b hl]; exact hbl, r⟩
/-- Another block is written. -/
theorem MapIs.grown {w w' : World} {b N : Nat} {S : List End} {row : Option Nat} (h : MapIs w b N S) (hg : w.grownBy w' row) (hne : some b ≠ row) : MapIs w' b N S := by
  obtain ⟨n, D, h1, ho, h2⟩ := h
  exact ⟨n, D, h1, ho.kept hg hne, h2⟩
theorem MapIs.put {w : World} {b N : Nat} {S : List End} {e : End} (h : MapIs w b N S) (hN : N < maxLen) (he : wfE e) (hS : e ∉ S) :
    ∃ w', (Instr.mapUpdate 171 (.map (some b)) (valE e) (.bool true)).run Try.prog w = .ok () w' ∧ MapIs w' b (N + 1) (S ++ [e]) ∧ w.mapTurned w' b := by
  obtain ⟨n, D, h1, ho, h2, h3, h4, h5⟩ := h
  obtain ⟨w', hr, ho', ht⟩ := ho.store le_law Try.underlying171 (by omega) (key_end he) (plainElem_bool Try.underlying4 true)
  have hh := MapIs.has (h5 e he)
  rw [decide_eq_false hS] at hh
  refine ⟨w', hr, ⟨n + 1, _, by omega, ho', ?_, ?_, ?_, ?_⟩, ht⟩
  · rw [List.nodup_append]
    exact ⟨h2, by simp, fun a ha b hb => by rw [List.mem_singleton] at hb; subst hb; rintro rfl; exact hS ha⟩
  · intro f hf
    rcases List.mem_append.1 hf with h | h
    · exact h3 f h
    · rw [List.mem_singleton.1 h]; exact he
  · rw [Maps.size_put (ho.tidy le_law), hh, h4]; simp
  · intro f hf z
    by_cases q : f = e
    · subst q
      rw [Maps.atKey_put_same (ho.isMap) (le_law.key (key_end he)), if_pos (by simp)]
    · rw [Maps.atKey_put_other (fun k => q (key_inj hf he k)), h5 f hf z]
      simp [q]
set_option maxRecDepth 100000 in
theorem MapIs.look {w : World} {b N : Nat} {S : List End} {e : End} (h : MapIs w b N S) (he : wfE e) :
    (Instr.lookup 171 (.map (some b)) (valE e) false).run Try.prog w = .ok (.bool (decide (e ∈ S))) w := by
  obtain ⟨n, D, h1, ho, h2, h3, h4, h5⟩ := h
  obtain ⟨v, ps, hr, hv⟩ := ho.lookup le_law Try.underlying171 (le_bool w) (plainElem_bool Try.underlying4 false) (key_end he)
  rw [hr]
  rw [h5 e he] at hv
  have : v = .bool (decide (e ∈ S)) := by
    unfold plainElem at hv
    rw [Try.underlying4] at hv
    by_cases q : e ∈ S
    · rw [if_pos q] at hv
      cases v <;> simp at hv
      rw [hv.1, decide_eq_true q]
    · rw [if_neg q] at hv
      cases v <;> simp at hv
      rw [hv.1, decide_eq_false q]
  rw [this]
theorem MapIs.drop {w : World} {b N : Nat} {S : List End} {e : End} (h : MapIs w b N S) (he : wfE e) (hS : e ∈ S) (ty : TypeId) :
    ∃ w', (Builtin.delete_ #[171, 133] ty #[.map (some b), valE e]).run Try.prog w = .ok (.tuple #[]) w' ∧ MapIs w' b N (S.erase e) ∧ w.mapTurned w' b := by
  obtain ⟨n, D, h1, ho, h2, h3, h4, h5⟩ := h
  obtain ⟨w', hr, ho', ht⟩ := ho.drop le_law Try.underlying171 (key_end he) ty
  have hh := MapIs.has (h5 e he)
  rw [decide_eq_true hS] at hh
  refine ⟨w', hr, ⟨n, _, h1, ho', h2.erase e, fun f hf => h3 f (List.mem_of_mem_erase hf), ?_, ?_⟩, ht⟩
  · have := Maps.size_del (k := keyE e) (ho.tidy le_law)
    rw [hh, h4] at this
    simp only [if_true] at this
    rw [List.length_erase_of_mem hS]
    omega
  · intro f hf z
    by_cases q : f = e
    · subst q
      rw [Maps.atKey_del_same, if_neg (fun k => ((h2.mem_erase_iff).1 k).1 rfl)]
    · rw [Maps.atKey_del_other (fun k => q (key_inj hf he k)), h5 f hf z]
      have : f ∈ S.erase e ↔ f ∈ S := by rw [h2.mem_erase_iff]; exact ⟨fun k => k.2, fun k => ⟨q, k⟩⟩
      by_cases q2 : f ∈ S
      · rw [if_pos q2, if_pos (this.2 q2)]
      · rw [if_neg q2, if_neg (fun k => q2 (this.1 k))]
theorem MapIs.len {w : World} {b N : Nat} {S : List End} (h : MapIs w b N S) (ty : TypeId) : (Builtin.len_ #[171] ty #[.map (some b)]).run Try.prog w = .ok (.int .i64 S.length) w := by
  obtain ⟨n, D, h1, ho, h2, h3, h4, h5⟩ := h
  rw [ho.len Try.underlying171 ty, h4]
theorem mapTurned_below {w0 w w' : World} {b : Nat} (h : Below w0.heap.size w0 w) (ht : w.mapTurned w' b) (hb : w0.heap.size ≤ b) : Below w0.heap.size w0 w' := by
  have := ht.grown
  exact h.grown this h.size (fun k e => by cases e; exact hb)

/-- 'v' is a slice of programs that reads as 'ps'. -/
def SlP (w : World) (v : Value) (ps : List Prg) : Prop :=
  ∃ (a : Option Addr) (cap : Nat), v = .slice a ps.length cap ∧ ps.length ≤ cap ∧ cap ≤ maxLen ∧ (a = none → cap = 0) ∧
    (ps = [] ∨ ∃ b off, a = some ⟨b, off, none⟩ ∧ b < w.heap.size ∧ ∀ i p, ps[i]? = some p → ∃ c, w.cell? ⟨b, off + i * 3, none⟩ = some (.int .i64 p.ins) ∧
      w.cell? ⟨b, off + i * 3 + 1, none⟩ = some (.int .i64 p.outs) ∧ w.cell? ⟨b, off + i * 3 + 2, none⟩ = some c ∧ SlI w c p.code)
def wfL (l : Lnk) : Prop := wfE l.src ∧ wfE l.tgt
/-- 'v' is a slice of links that reads as 'ls'. -/
def SlL (w : World) (v : Value) (ls : List Lnk) : Prop :=
  ∃ (a : Option Addr) (cap : Nat), v = .slice a ls.length cap ∧ ls.length ≤ cap ∧ cap ≤ maxLen ∧ (a = none → cap = 0) ∧
    (ls = [] ∨ ∃ b off, a = some ⟨b, off, none⟩ ∧ b < w.heap.size ∧ ∀ i l, ls[i]? = some l → ∃ c, w.cell? ⟨b, off + i * 5, none⟩ = some (.int .i64 l.frm) ∧
      w.cell? ⟨b, off + i * 5 + 1, none⟩ = some (.int .i64 l.out) ∧ w.cell? ⟨b, off + i * 5 + 2, none⟩ = some (.int .i64 l.to) ∧ w.cell? ⟨b, off + i * 5 + 3, none⟩ = some (.int .i64 l.inn) ∧
      w.cell? ⟨b, off + i * 5 + 4, none⟩ = some c ∧ wfL l ∧ Sl w c l.tok)
def NetV (w : World) (v : Value) (n : Net) : Prop := ∃ c d, v = .agg #[c, d] ∧ SlP w c n.progs ∧ SlL w d n.links

theorem SlP.below {w w' : World} {v : Value} {xs : List Prg} (h : SlP w v xs) (hb : Below w.heap.size w w') : SlP w' v xs := by
  obtain ⟨a, cap, hv, h1, h2, h3, h4⟩ := h
  refine ⟨a, cap, hv, h1, h2, h3, ?_⟩
  rcases h4 with h4 | ⟨b, off, ha, hlt, hc⟩
  · exact .inl h4
  · refine .inr ⟨b, off, ha, Nat.lt_of_lt_of_le hlt hb.size, fun i x hi => ?_⟩
    obtain ⟨c, c0, c1, c2, c3⟩ := hc i x hi
    exact ⟨c, (hb.cell hlt).trans c0, (hb.cell hlt).trans c1, (hb.cell hlt).trans c2, c3.below hb⟩
theorem SlL.below {w w' : World} {v : Value} {xs : List Lnk} (h : SlL w v xs) (hb : Below w.heap.size w w') : SlL w' v xs := by
  obtain ⟨a, cap, hv, h1, h2, h3, h4⟩ := h
  refine ⟨a, cap, hv, h1, h2, h3, ?_⟩
  rcases h4 with h4 | ⟨b, off, ha, hlt, hc⟩
  · exact .inl h4
  · refine .inr ⟨b, off, ha, Nat.lt_of_lt_of_le hlt hb.size, fun i x hi => ?_⟩
    obtain ⟨c, c0, c1, c2, c3, c4, c5, c6⟩ := hc i x hi
    exact ⟨c, (hb.cell hlt).trans c0, (hb.cell hlt).trans c1, (hb.cell hlt).trans c2, (hb.cell hlt).trans c3, (hb.cell hlt).trans c4, c5, c6.below hb⟩
theorem NetV.below {w w' : World} {v : Value} {n : Net} (h : NetV w v n) (hb : Below w.heap.size w w') : NetV w' v n := by
  obtain ⟨c, d, h1, h2, h3⟩ := h; exact ⟨c, d, h1, h2.below hb, h3.below hb⟩
theorem SlI.shape {w : World} {v : Value} {xs : List Ins} (h : SlI w v xs) : ∃ a c, v = .slice a xs.length c := by
  obtain ⟨a, c, h, _⟩ := h; exact ⟨a, c, h⟩
theorem Sl.shape {w : World} {v : Value} {xs : List Int} (h : Sl w v xs) : ∃ a c, v = .slice a xs.length c := by
  obtain ⟨a, c, h, _⟩ := h; exact ⟨a, c, h⟩
theorem cells5 {w : World} {g T : Nat} {u0 u1 u2 u3 u4 : Value} (h : w.heap[g]? = some (.cells #[u0, u1, u2, u3, u4] T)) : w.cell? ⟨g, 0, none⟩ = some u0 ∧ w.cell? ⟨g, 1, none⟩ = some u1 ∧ w.cell? ⟨g, 2, none⟩ = some u2 ∧ w.cell? ⟨g, 3, none⟩ = some u3 ∧ w.cell? ⟨g, 4, none⟩ = some u4 := by
  have a := cell_of h 0; have b := cell_of h 1; have c := cell_of h 2; have d := cell_of h 3; have e := cell_of h 4
  simp at a b c d e; exact ⟨a, b, c, d, e⟩
theorem SlL.wf {w : World} {v : Value} {xs : List Lnk} (h : SlL w v xs) : ∀ l ∈ xs, wfL l := by
  intro l hl
  obtain ⟨_, _, _, _, _, _, h4⟩ := h
  rcases h4 with rfl | ⟨_, _, _, _, hc⟩
  · simp at hl
  · obtain ⟨i, hi, e⟩ := List.getElem_of_mem hl
    obtain ⟨_, _, _, _, _, _, h, _⟩ := hc i l (List.getElem?_eq_some_iff.2 ⟨hi, e⟩)
    exact h
theorem SlP.len {w : World} {v : Value} {xs : List Prg} (h : SlP w v xs) : xs.length ≤ 9223372036854775807 := by
  obtain ⟨_, _, _, h1, h2, _⟩ := h; unfold maxLen at h2; omega
theorem SlL.len {w : World} {v : Value} {xs : List Lnk} (h : SlL w v xs) : xs.length ≤ 9223372036854775807 := by
  obtain ⟨_, _, _, h1, h2, _⟩ := h; unfold maxLen at h2; omega
theorem SlP.shape {w : World} {v : Value} {xs : List Prg} (h : SlP w v xs) : ∃ a c, v = .slice a xs.length c := by
  obtain ⟨a, c, h, _⟩ := h; exact ⟨a, c, h⟩
theorem SlL.shape {w : World} {v : Value} {xs : List Lnk} (h : SlL w v xs) : ∃ a c, v = .slice a xs.length c := by
  obtain ⟨a, c, h, _⟩ := h; exact ⟨a, c, h⟩

set_option maxHeartbeats 800000 in
theorem isrc_any (a b c d : Int) (u : Value) (w : World) :
    Calls Try.prog 112 #[.agg #[.int .i64 a, .int .i64 b, .int .i64 c, .int .i64 d, u]] w fun e w' => e = .returned (.agg #[.int .i64 a, .int .i64 b]) ∧ Below w.heap.size w w' := by
  have hb := Lib.hid (Below.refl w.heap.size w)
  go_enter Try.func112, Try.ntmps112
  go_wp2_with fail
  refine bodyPost_ret (v := .agg #[.int .i64 a, .int .i64 b]) (by simp [results, Try.results112, go_sem]) rfl ⟨rfl, ?_⟩
  first | exact (hb.out.al _).al _ | exact ((((hb.out.al _).al _).setCell (by simp) _).setCell (by simp) _)
set_option maxHeartbeats 800000 in
theorem itgt_any (a b c d : Int) (u : Value) (w : World) :
    Calls Try.prog 113 #[.agg #[.int .i64 a, .int .i64 b, .int .i64 c, .int .i64 d, u]] w fun e w' => e = .returned (.agg #[.int .i64 c, .int .i64 d]) ∧ Below w.heap.size w w' := by
  have hb := Lib.hid (Below.refl w.heap.size w)
  go_enter Try.func113, Try.ntmps113
  go_wp2_with fail
  refine bodyPost_ret (v := .agg #[.int .i64 c, .int .i64 d]) (by simp [results, Try.results113, go_sem]) rfl ⟨rfl, ?_⟩
  first | exact (hb.out.al _).al _ | exact ((((hb.out.al _).al _).setCell (by simp) _).setCell (by simp) _)

set_option maxHeartbeats 800000 in
theorem iout_any (a b : Int) (w : World) :
    Calls Try.prog 130 #[.agg #[.int .i64 a, .int .i64 b]] w fun e w' => e = .returned (.bool (decide ((a, b) = outE))) ∧ Below w.heap.size w w' := by
  have hb := Lib.hid (Below.refl w.heap.size w)
  go_enter Try.func130, Try.ntmps130
  go_wp2_with fail
  all_goals
    go_ret
    refine ⟨ret_bool ?_, hb.out.al _⟩
    simp [outE] <;> omega

set_option maxHeartbeats 800000 in
theorem iinput_any (a b c d : Int) (u : Value) (w : World) :
    Calls Try.prog 110 #[.agg #[.int .i64 a, .int .i64 b, .int .i64 c, .int .i64 d, u]] w fun e w' => e = .returned (.bool (decide ((a, b) = outE))) ∧ Below w.heap.size w w' := by
  have hb := Lib.hid ((Below.refl w.heap.size w).al (.cells #[.int .i64 a, .int .i64 b, .int .i64 c, .int .i64 d, u] 68))
  go_enter Try.func110, Try.ntmps110
  go_wp2_with (first | (go_at_call 112; refine (isrc_any a b c d u _).mono ?_; rintro e w2 ⟨rfl, hb1⟩; have HB1 := Lib.hid hb1; clear hb1) | (go_at_call 130; refine (iout_any a b _).mono ?_; rintro e w3 ⟨rfl, hb3⟩; have HB3 := Lib.hid hb3; clear hb3))
  go_ret
  exact ⟨rfl, (hb.out.trans (HB1.out.mono (by simp))).trans (HB3.out.mono (by have := HB1.out.size; simp at this; omega))⟩
set_option maxHeartbeats 800000 in
theorem ioutput_any (a b c d : Int) (u : Value) (w : World) :
    Calls Try.prog 111 #[.agg #[.int .i64 a, .int .i64 b, .int .i64 c, .int .i64 d, u]] w fun e w' => e = .returned (.bool (decide ((c, d) = outE))) ∧ Below w.heap.size w w' := by
  have hb := Lib.hid ((Below.refl w.heap.size w).al (.cells #[.int .i64 a, .int .i64 b, .int .i64 c, .int .i64 d, u] 68))
  go_enter Try.func111, Try.ntmps111
  go_wp2_with (first | (go_at_call 113; refine (itgt_any a b c d u _).mono ?_; rintro e w2 ⟨rfl, hb1⟩; have HB1 := Lib.hid hb1; clear hb1) | (go_at_call 130; refine (iout_any c d _).mono ?_; rintro e w3 ⟨rfl, hb3⟩; have HB3 := Lib.hid hb3; clear hb3))
  go_ret
  exact ⟨rfl, (hb.out.trans (HB1.out.mono (by simp))).trans (HB3.out.mono (by have := HB1.out.size; simp at this; omega))⟩

set_option maxHeartbeats 800000 in
theorem iinsOf_any (a b : Int) (u : Value) (w : World) :
    Calls Try.prog 117 #[.agg #[.int .i64 a, .int .i64 b, u]] w fun e w' => e = .returned (.int .i64 a) ∧ Below w.heap.size w w' := by
  have hb := Lib.hid (Below.refl w.heap.size w)
  go_enter Try.func117, Try.ntmps117
  go_wp2_with fail
  go_ret
  exact ⟨rfl, hb.out.al _⟩
set_option maxHeartbeats 800000 in
theorem ioutsOf_any (a b : Int) (u : Value) (w : World) :
    Calls Try.prog 116 #[.agg #[.int .i64 a, .int .i64 b, u]] w fun e w' => e = .returned (.int .i64 b) ∧ Below w.heap.size w w' := by
  have hb := Lib.hid (Below.refl w.heap.size w)
  go_enter Try.func116, Try.ntmps116
  go_wp2_with fail
  go_ret
  exact ⟨rfl, hb.out.al _⟩
end Go.Proofs.Ytkeoefbkeommhaa
