/-
  A map whose keys are ends of links, as a list of ends. No statement of the seat is proved here.
-/
import Derived.Test.YtjphamgkigekkaaNetM
import Derived.Maps.OwnSet
import Derived.Maps.Views
import Derived.DeepKeys4
namespace Go.Proofs.Ytjphamgkigekkaa
open Go.RowKit

theorem le_row : (119 : TypeId) < Try.prog.types.size := of_decide_eq_true (by kernel_rfl)
set_option maxRecDepth 100000 in
theorem le_wide : (match Try.prog.underlying 119 with | some (.array _ _) | some (.struct _) => true | _ => false) = true := by rw [Try.underlying119]
theorem le_laid : laidOutB Try.prog = true := by kernel_rfl
theorem le_key : Try.prog.keyTypeAt 2 119 = true := by kernel_rfl
set_option maxRecDepth 100000 in
theorem le_klaw : WideMaps.KeyLaw Try.prog 119 := deep_law_laid le_laid (m := 2) (by omega) le_row le_key (by rw [Try.underlying119])
theorem le_law : Maps.Keyed Try.prog 119 := Maps.Keyed.of_law le_klaw
theorem le_cells : Try.prog.cellsOf 119 = 2 := by kernel_rfl
theorem le_int : Try.prog.cellsOf 3 = 1 := by kernel_rfl
theorem le_kt : Try.prog.keyType 119 = true := by kernel_rfl
theorem le_size : ∃ m, Try.prog.types.size = m + 1 := ⟨Try.prog.types.size - 1, by have h : (119 : Nat) < Try.prog.types.size := le_row; omega⟩
theorem le_bool (w : World) : (zeroValue 4).run Try.prog w = .ok (.bool false) w := by kernel_rfl

def wfI (n : Int) : Prop := -9223372036854775808 ≤ n ∧ n ≤ 9223372036854775807
def wfE (e : End) : Prop := wfI e.1 ∧ wfI e.2
def valE (e : End) : Value := .agg #[.int .i64 e.1, .int .i64 e.2]
def keyE (e : End) : Lit := .string (keyBytes [.int .i64 e.1, .int .i64 e.2])
theorem wf_lit {n : Int} (h : wfI n) : (Lit.int .i64 n).wf = true := by
  obtain ⟨h1, h2⟩ := h
  have e1 : IntKind.i64.min = -9223372036854775808 := by decide
  have e2 : IntKind.i64.max = 9223372036854775807 := by decide
  simp [Lit.wf, e1, e2]
  omega
theorem key_end {e : End} (h : wfE e) : keyOf Try.prog 119 (valE e) = some (keyE e) := by
  obtain ⟨a, b⟩ := e
  have wa := wf_lit h.1
  have wb := wf_lit h.2
  obtain ⟨m, hm⟩ := le_size
  unfold keyOf valE
  simp only [Try.underlying119]
  rw [if_pos (by simp [le_kt, Value.formed, Try.underlying119, le_cells]), hm]
  unfold Program.keyLits
  simp only [Try.underlying119, Value.cells]
  rw [if_pos ⟨by rw [le_cells]; rfl, by kernel_rfl⟩]
  simp [Program.keyLits, le_int, Try.underlying3, keyE]
  simp only [] at wa wb
  simp [wa, wb]
theorem key_inj {e f : End} (he : wfE e) (hf : wfE f) (h : keyE e = keyE f) : e = f := by
  have := le_law.inj (key_end he) (h ▸ key_end hf)
  unfold valE at this
  simp at this
  exact Prod.ext this.1 this.2

/-- The block b is a map of at most N entries whose keys are the ends S, with 'true' at each. -/
def MapIs (w : World) (b N : Nat) (S : List End) : Prop :=
  ∃ (n : Nat) (D : DataW Unit), n ≤ N ∧ w.ownsMap Try.prog 119 (plainElem Try.prog 4) b n D ∧ S.Nodup ∧ (∀ e ∈ S, wfE e) ∧ Maps.size D = S.length ∧
    ∀ e, wfE e → ∀ z, D.atKey (keyE e) z = if e ∈ S then .lit (.bool true) else z

theorem MapIs.has {S : List End} {D : DataW Unit} {e : End} (h : ∀ z, D.atKey (keyE e) z = if e ∈ S then .lit (.bool true) else z) : Maps.has D (keyE e) = decide (e ∈ S) := by
  by_cases q : e ∈ S
  · rw [decide_eq_true q]
    exact Maps.has_true_of_atKey (y := .lit (.bool true)) (fun z => by rw [h z, if_pos q])
  · rw [decide_eq_false q]
    exact Maps.has_false_of_atKey (fun z => by rw [h z, if_neg q])
theorem MapIs.lt {w : World} {b N : Nat} {S : List End} (h : MapIs w b N S) : b < w.heap.size := by
  obtain ⟨n, D, _, ho, _⟩ := h; exact ho.lt
theorem MapIs.made (w : World) : MapIs (w.alloc (.map #[] 0)) w.heap.size 0 [] :=
  ⟨0, .map [], Nat.le_refl _, World.ownsMap_made w _ _ _, List.nodup_nil, by simp, rfl, fun e _ z => by simp [DataW.atKey]⟩
theorem MapIs.below {w w' : World} {b N : Nat} {S : List End} (h : MapIs w b N S) (hb : Below w.heap.size w w') : MapIs w' b N S := by
  obtain ⟨n, D, h1, ho, h2⟩ := h
  refine ⟨n, D, h1, ?_, h2⟩
  have hl := ho.lt
  obtain ⟨es, clock, hbl, r⟩ := ho
  exact ⟨es, clock, by rw [hb.block b hl]; exact hbl, r⟩
/-- Another block is written. -/
theorem MapIs.grown {w w' : World} {b N : Nat} {S : List End} {row : Option Nat} (h : MapIs w b N S) (hg : w.grownBy w' row) (hne : some b ≠ row) : MapIs w' b N S := by
  obtain ⟨n, D, h1, ho, h2⟩ := h
  exact ⟨n, D, h1, ho.kept hg hne, h2⟩
theorem MapIs.put {w : World} {b N : Nat} {S : List End} {e : End} (h : MapIs w b N S) (hN : N < maxLen) (he : wfE e) (hS : e ∉ S) :
    ∃ w', (Instr.mapUpdate 164 (.map (some b)) (valE e) (.bool true)).run Try.prog w = .ok () w' ∧ MapIs w' b (N + 1) (S ++ [e]) ∧ w.mapTurned w' b := by
  obtain ⟨n, D, h1, ho, h2, h3, h4, h5⟩ := h
  obtain ⟨w', hr, ho', ht⟩ := ho.store le_law Try.underlying164 (by omega) (key_end he) (plainElem_bool Try.underlying4 true)
  have hh := MapIs.has (h5 e he)
  rw [decide_eq_false hS] at hh
  refine ⟨w', hr, ⟨n + 1, _, by omega, ho', ?_, ?_, ?_, ?_⟩, ht⟩
  · rw [List.nodup_append]
    exact ⟨h2, by simp, fun a ha b hb => by rw [List.mem_singleton] at hb; subst hb; rintro rfl; exact hS ha⟩
  · intro f hf
    rcases List.mem_append.1 hf with h | h
    · exact h3 f h
    · rw [List.mem_singleton.1 h]; exact he
  · rw [Maps.size_put (ho.tidy le_law), hh, h4]; simp
  · intro f hf z
    by_cases q : f = e
    · subst q
      rw [Maps.atKey_put_same (ho.isMap) (le_law.key (key_end he)), if_pos (by simp)]
    · rw [Maps.atKey_put_other (fun k => q (key_inj hf he k)), h5 f hf z]
      simp [q]
set_option maxRecDepth 100000 in
theorem MapIs.look {w : World} {b N : Nat} {S : List End} {e : End} (h : MapIs w b N S) (he : wfE e) :
    (Instr.lookup 164 (.map (some b)) (valE e) false).run Try.prog w = .ok (.bool (decide (e ∈ S))) w := by
  obtain ⟨n, D, h1, ho, h2, h3, h4, h5⟩ := h
  obtain ⟨v, ps, hr, hv⟩ := ho.lookup le_law Try.underlying164 (le_bool w) (plainElem_bool Try.underlying4 false) (key_end he)
  rw [hr]
  rw [h5 e he] at hv
  have : v = .bool (decide (e ∈ S)) := by
    unfold plainElem at hv
    rw [Try.underlying4] at hv
    by_cases q : e ∈ S
    · rw [if_pos q] at hv
      cases v <;> simp at hv
      rw [hv.1, decide_eq_true q]
    · rw [if_neg q] at hv
      cases v <;> simp at hv
      rw [hv.1, decide_eq_false q]
  rw [this]
theorem MapIs.drop {w : World} {b N : Nat} {S : List End} {e : End} (h : MapIs w b N S) (he : wfE e) (hS : e ∈ S) (ty : TypeId) :
    ∃ w', (Builtin.delete_ #[164, 119] ty #[.map (some b), valE e]).run Try.prog w = .ok (.tuple #[]) w' ∧ MapIs w' b N (S.erase e) ∧ w.mapTurned w' b := by
  obtain ⟨n, D, h1, ho, h2, h3, h4, h5⟩ := h
  obtain ⟨w', hr, ho', ht⟩ := ho.drop le_law Try.underlying164 (key_end he) ty
  have hh := MapIs.has (h5 e he)
  rw [decide_eq_true hS] at hh
  refine ⟨w', hr, ⟨n, _, h1, ho', h2.erase e, fun f hf => h3 f (List.mem_of_mem_erase hf), ?_, ?_⟩, ht⟩
  · have := Maps.size_del (k := keyE e) (ho.tidy le_law)
    rw [hh, h4] at this
    simp only [if_true] at this
    rw [List.length_erase_of_mem hS]
    omega
  · intro f hf z
    by_cases q : f = e
    · subst q
      rw [Maps.atKey_del_same, if_neg (fun k => ((h2.mem_erase_iff).1 k).1 rfl)]
    · rw [Maps.atKey_del_other (fun k => q (key_inj hf he k)), h5 f hf z]
      have : f ∈ S.erase e ↔ f ∈ S := by rw [h2.mem_erase_iff]; exact ⟨fun k => k.2, fun k => ⟨q, k⟩⟩
      by_cases q2 : f ∈ S
      · rw [if_pos q2, if_pos (this.2 q2)]
      · rw [if_neg q2, if_neg (fun k => q2 (this.1 k))]
theorem MapIs.len {w : World} {b N : Nat} {S : List End} (h : MapIs w b N S) (ty : TypeId) : (Builtin.len_ #[164] ty #[.map (some b)]).run Try.prog w = .ok (.int .i64 S.length) w := by
  obtain ⟨n, D, h1, ho, h2, h3, h4, h5⟩ := h
  rw [ho.len Try.underlying164 ty, h4]
theorem mapTurned_below {w0 w w' : World} {b : Nat} (h : Below w0.heap.size w0 w) (ht : w.mapTurned w' b) (hb : w0.heap.size ≤ b) : Below w0.heap.size w0 w' := by
  have := ht.grown
  exact h.grown this h.size (fun k e => by cases e; exact hb)
end Go.Proofs.Ytjphamgkigekkaa
