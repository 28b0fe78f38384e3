/-
  Schedules as loops, and loops as schedules: the mathematics. No statement of the seat is proved here.
-/
import Derived.Test.YtokhdnejaecejaaGrf
namespace Go.Proofs.Ytokhdnejaecejaa
open Go.RowKit

def addLo (acc : List Lop) (x : Int) : List Lop :=
  match acc.getLast? with
  | some l => if l.nd = x then acc.dropLast ++ [⟨x, l.tm + 1⟩] else acc ++ [⟨x, 1⟩]
  | none => [⟨x, 1⟩]
def comp (xs : List Int) : List Lop := xs.foldl addLo []
theorem addLo_same {pre : List Lop} {l : Lop} {x : Int} (h : l.nd = x) : addLo (pre ++ [l]) x = pre ++ [⟨x, l.tm + 1⟩] := by
  unfold addLo
  rw [List.getLast?_concat]
  simp only []
  rw [if_pos h, List.dropLast_concat]
theorem addLo_new {acc : List Lop} {x : Int} (h : ∀ pre l, acc = pre ++ [l] → l.nd ≠ x) : addLo acc x = acc ++ [⟨x, 1⟩] := by
  unfold addLo
  rcases e : acc.getLast? with _ | l
  · rw [List.getLast?_eq_none_iff] at e
    subst e; rfl
  · simp only []
    rw [if_neg]
    obtain ⟨pre, hp⟩ := List.getLast?_eq_some_iff.1 e
    exact h pre l hp
theorem comp_take {xs : List Int} {k : Nat} {x : Int} (h : xs[k]? = some x) : comp (xs.take (k + 1)) = addLo (comp (xs.take k)) x := by
  unfold comp; rw [List.take_add_one, h, List.foldl_append]; rfl
theorem comp_snoc (xs : List Int) (x : Int) : comp (xs ++ [x]) = addLo (comp xs) x := by unfold comp; rw [List.foldl_append]; rfl
/-- The last loop is of the last element. -/
theorem comp_last {xs : List Int} {k : Nat} {y : Int} (h : xs[k]? = some y) : ∃ pre l, comp (xs.take (k + 1)) = pre ++ [l] ∧ l.nd = y := by
  rw [comp_take h]
  unfold addLo
  split
  · split
    · exact ⟨_, _, rfl, rfl⟩
    · exact ⟨_, _, rfl, rfl⟩
  · exact ⟨[], _, rfl, rfl⟩
theorem comp_nil : comp [] = [] := rfl
theorem rev_ind {P : List Int → Prop} (h0 : P []) (h1 : ∀ xs x, P xs → P (xs ++ [x])) (xs : List Int) : P xs := by
  have H : ∀ (n : Nat) (xs : List Int), xs.length = n → P xs := by
    intro n
    induction n with
    | zero => intro xs h; rw [List.eq_nil_of_length_eq_zero h]; exact h0
    | succ n ih =>
      intro xs h
      rcases List.eq_nil_or_concat xs with e | ⟨pre, l, e⟩
      · subst e; simp at h
      · rw [List.concat_eq_append] at e
        subst e
        exact h1 _ _ (ih pre (by simp at h; omega))
  exact H _ xs rfl
def totL (ls : List Lop) : Int := (ls.map Lop.tm).sum
theorem totL_snoc (ls : List Lop) (l : Lop) : totL (ls ++ [l]) = totL ls + l.tm := by simp [totL]
theorem comp_bd (xs : List Int) : (∀ l ∈ comp xs, 1 ≤ l.tm) ∧ totL (comp xs) = xs.length := by
  refine rev_ind (P := fun xs => (∀ l ∈ comp xs, 1 ≤ l.tm) ∧ totL (comp xs) = xs.length) ?_ ?_ xs
  · exact ⟨by simp [comp_nil], rfl⟩
  · intro xs x ih
    rw [comp_snoc]
    obtain ⟨h1, h2⟩ := ih
    rcases List.eq_nil_or_concat (comp xs) with e | ⟨pre, l, e⟩
    · rw [e] at h2 ⊢
      refine ⟨by simp [addLo], ?_⟩
      simp [totL] at h2
      simp [addLo, totL, ← h2]
    · rw [List.concat_eq_append] at e
      rw [e] at h1 h2 ⊢
      by_cases q : l.nd = x
      · rw [addLo_same q]
        refine ⟨fun m hm => ?_, ?_⟩
        · rw [List.mem_append] at hm
          rcases hm with hm | hm
          · exact h1 m (List.mem_append_left _ hm)
          · simp at hm; subst hm
            have := h1 l (by simp)
            simp only []; omega
        · rw [totL_snoc] at h2 ⊢
          simp only [List.length_append, List.length_cons, List.length_nil]
          omega
      · have := addLo_new (acc := pre ++ [l]) (x := x) (fun pre' l' e' => by
          have := (List.append_inj' e' rfl).2
          simp at this; rw [← this]; exact q)
        rw [this]
        refine ⟨fun m hm => ?_, ?_⟩
        · rw [List.mem_append] at hm
          rcases hm with hm | hm
          · exact h1 m hm
          · simp at hm; subst hm; simp
        · rw [totL_snoc (pre ++ [l]), h2]
          simp
theorem totL_ge : ∀ (ls : List Lop), (∀ l ∈ ls, 1 ≤ l.tm) → (ls.length : Int) ≤ totL ls
  | [], _ => by simp [totL]
  | l :: ls, h => by
    have h1 := h l (by simp)
    have h2 := totL_ge ls (fun m hm => h m (by simp [hm]))
    simp only [totL, List.map_cons, List.sum_cons, List.length_cons] at h2 ⊢
    omega
theorem comp_len (xs : List Int) : (comp xs).length ≤ xs.length := by
  have h := comp_bd xs
  have := totL_ge _ h.1
  omega
theorem totL_mem : ∀ (ls : List Lop), (∀ l ∈ ls, 1 ≤ l.tm) → ∀ l ∈ ls, l.tm ≤ totL ls
  | [], _, l, hm => by simp at hm
  | a :: ls, h, l, hm => by
    have h2 := totL_ge ls (fun m hm => h m (by simp [hm]))
    have ha := h a (by simp)
    simp only [totL, List.map_cons, List.sum_cons] at h2 ⊢
    rcases List.mem_cons.1 hm with e | e
    · subst e; omega
    · have := totL_mem ls (fun m hm => h m (by simp [hm])) l e
      simp only [totL] at this
      omega
theorem comp_tm {xs : List Int} {l : Lop} (h : l ∈ comp xs) : 1 ≤ l.tm ∧ l.tm ≤ xs.length := by
  have hb := comp_bd xs
  exact ⟨hb.1 l h, by have := totL_mem _ hb.1 l h; omega⟩
/-- A schedule of loops: the elements, as long as they are not too many. -/
def expS (s : Option (List Int)) (l : Lop) : Option (List Int) :=
  match s with
  | none => none
  | some xs => if inB 0 (1600 - (xs.length : Int)) l.tm then some (xs ++ List.replicate l.tm.toNat l.nd) else none
def expL (ls : List Lop) : Option (List Int) := ls.foldl expS (some [])
theorem expS_none : ∀ ls : List Lop, ls.foldl expS none = none
  | [] => rfl
  | _ :: ls => expS_none ls
theorem expL_take {ls : List Lop} {k : Nat} {l : Lop} (h : ls[k]? = some l) : expL (ls.take (k + 1)) = expS (expL (ls.take k)) l := by
  unfold expL; rw [List.take_add_one, h, List.foldl_append]; rfl
theorem expL_fail {ls : List Lop} {k : Nat} (h : expL (ls.take k) = none) : expL ls = none := by
  unfold expL at *
  rw [← List.take_append_drop k ls, List.foldl_append, h, expS_none]
theorem expS_yes {xs : List Int} {l : Lop} (h : inB 0 (1600 - (xs.length : Int)) l.tm = true) : expS (some xs) l = some (xs ++ List.replicate l.tm.toNat l.nd) := by
  unfold expS; simp only []; rw [if_pos h]
theorem expS_no {xs : List Int} {l : Lop} (h : inB 0 (1600 - (xs.length : Int)) l.tm = false) : expS (some xs) l = none := by
  unfold expS; simp only []; rw [if_neg (by rw [h]; decide)]
def expOk (ls : List Lop) : Bool := (expL ls).isSome
def expR (ls : List Lop) : List Int := (expL ls).getD []
theorem expOk_no {ls : List Lop} (h : expL ls = none) : expOk ls = false := by simp [expOk, h]
theorem expR_no {ls : List Lop} (h : expL ls = none) : expR ls = [] := by simp [expR, h]
theorem expOk_yes {ls : List Lop} {xs : List Int} (h : expL ls = some xs) : expOk ls = true := by simp [expOk, h]
theorem expR_yes {ls : List Lop} {xs : List Int} (h : expL ls = some xs) : expR ls = xs := by simp [expR, h]
theorem expL_len {ls : List Lop} : ∀ xs, expL ls = some xs → xs.length ≤ 1600 := by
  have H : ∀ (ls : List Lop) (s : Option (List Int)) (xs : List Int), (∀ ys, s = some ys → ys.length ≤ 1600) → ls.foldl expS s = some xs → xs.length ≤ 1600 := by
    intro ls
    induction ls with
    | nil => intro s xs hs e; exact hs xs e
    | cons l ls ih =>
      intro s xs hs e
      refine ih _ xs ?_ e
      intro ys e2
      rcases s with _ | zs
      · cases e2
      · unfold expS at e2
        simp only [] at e2
        split at e2
        · rename_i q
          have q := inB_t q
          simp only [Option.some.injEq] at e2
          rw [← e2, List.length_append, List.length_replicate]
          omega
        · cases e2
  intro xs e
  exact H ls _ xs (fun ys e => by simp only [Option.some.injEq] at e; rw [← e]; simp) e
theorem exp_bd (ls : List Lop) : (expR ls).length ≤ 1600 := by
  rcases h : expL ls with _ | xs
  · rw [expR_no h]; simp
  · rw [expR_yes h]; exact expL_len xs h
/-- What is written as loops is read back. -/
theorem exp_comp (xs : List Int) (h : xs.length ≤ 1600) : expL (comp xs) = some xs := by
  revert h
  refine rev_ind (P := fun xs => xs.length ≤ 1600 → expL (comp xs) = some xs) ?_ ?_ xs
  · intro _; rfl
  · intro xs x ih h
    simp only [List.length_append, List.length_cons, List.length_nil] at h
    have ih := ih (by omega)
    rw [comp_snoc]
    rcases List.eq_nil_or_concat (comp xs) with e | ⟨pre, l, e⟩
    · rw [e] at ih ⊢
      simp [expL] at ih
      subst ih
      rfl
    · rw [List.concat_eq_append] at e
      have hb := comp_bd xs
      rw [e] at ih hb ⊢
      by_cases q : l.nd = x
      · rw [addLo_same q]
        unfold expL at ih ⊢
        rw [List.foldl_append] at ih ⊢
        simp only [List.foldl_cons, List.foldl_nil] at ih ⊢
        rcases e2 : pre.foldl expS (some []) with _ | ys
        · rw [e2] at ih; cases ih
        · rw [e2] at ih
          have htl := hb.1 l (by simp)
          unfold expS at ih ⊢
          simp only [] at ih ⊢
          split at ih
          · simp only [Option.some.injEq] at ih
            have hlen : xs.length = ys.length + l.tm.toNat := by rw [← ih]; simp
            rw [if_pos (inB_yes (by omega) (by omega)), ← ih, q]
            rw [show (l.tm + 1).toNat = l.tm.toNat + 1 by omega, List.replicate_succ', List.append_assoc]
          · cases ih
      · have h2 := addLo_new (acc := pre ++ [l]) (x := x) (fun pre' l' e' => by
          have := (List.append_inj' e' rfl).2
          simp at this; rw [← this]; exact q)
        rw [h2]
        unfold expL at ih ⊢
        rw [List.foldl_append, ih]
        simp only [List.foldl_cons, List.foldl_nil]
        rw [expS_yes (inB_yes (by simp only []; omega) (by simp only []; omega))]
        rfl
/-- Two loops side by side are of different nodes. -/
theorem comp_ne (xs : List Int) : ∀ i a b, (comp xs)[i]? = some a → (comp xs)[i + 1]? = some b → b.nd ≠ a.nd := by
  refine rev_ind (P := fun xs => ∀ i a b, (comp xs)[i]? = some a → (comp xs)[i + 1]? = some b → b.nd ≠ a.nd) ?_ ?_ xs
  · intro i a b h; simp [comp_nil] at h
  · intro xs x ih
    rw [comp_snoc]
    intro i a b ha hb
    rcases List.eq_nil_or_concat (comp xs) with e | ⟨pre, l, e⟩
    · rw [e] at ha hb
      simp [addLo] at ha hb
    · rw [List.concat_eq_append] at e
      rw [e] at ih ha hb
      by_cases q : l.nd = x
      · rw [addLo_same q] at ha hb
        have hi : i + 1 < (pre ++ [Lop.mk x (l.tm + 1)]).length := (List.getElem?_eq_some_iff.1 hb).1
        simp at hi
        rw [List.getElem?_append_left (by omega)] at ha
        by_cases z : i + 1 < pre.length
        · rw [List.getElem?_append_left z] at hb
          exact ih i a b (by rw [List.getElem?_append_left (by omega)]; exact ha) (by rw [List.getElem?_append_left z]; exact hb)
        · rw [List.getElem?_append_right (by omega), show i + 1 - pre.length = 0 by omega] at hb
          simp at hb
          subst hb
          have := ih i a l (by rw [List.getElem?_append_left (by omega)]; exact ha) (by rw [List.getElem?_append_right (by omega), show i + 1 - pre.length = 0 by omega]; rfl)
          rw [← q]; exact this
      · have h2 := addLo_new (acc := pre ++ [l]) (x := x) (fun pre' l' e' => by
          have := (List.append_inj' e' rfl).2
          simp at this; rw [← this]; exact q)
        rw [h2] at ha hb
        have hi : i + 1 < (pre ++ [l] ++ [Lop.mk x 1]).length := (List.getElem?_eq_some_iff.1 hb).1
        simp at hi
        rw [List.getElem?_append_left (by simp; omega)] at ha
        by_cases z : i + 1 < (pre ++ [l]).length
        · rw [List.getElem?_append_left z] at hb
          exact ih i a b ha hb
        · simp at z
          rw [List.getElem?_append_right (by simp; omega)] at hb
          simp [show i + 1 - (pre.length + 1) = 0 by omega] at hb
          rw [List.getElem?_append_right (by omega), show i - pre.length = 0 by omega] at ha
          simp at ha
          subst hb; subst ha
          exact fun z => q z.symm
end Go.Proofs.Ytokhdnejaecejaa
