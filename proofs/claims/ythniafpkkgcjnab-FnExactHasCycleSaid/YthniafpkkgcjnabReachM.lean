/-
  What is reached in a network: by sweeps, and by a list that grows while it is followed. No statement of the seat is proved here.
-/
import Derived.Test.YthniafpkkgcjnabLinkM
namespace Go.Proofs.Ythniafpkkgcjnab
open Go.RowKit

inductive Rch (E : Int → Int → Prop) (p : Int) : Int → Prop
  | one {j : Int} (h : E p j) : Rch E p j
  | more {i j : Int} (h : Rch E p i) (k : E i j) : Rch E p j
theorem Rch.closed {E : Int → Int → Prop} {p : Int} {S : Int → Prop} (h1 : ∀ j, E p j → S j) (h2 : ∀ i j, S i → E i j → S j) {j : Int} (h : Rch E p j) : S j := by
  induction h with
  | one h => exact h1 _ h
  | more _ k ih => exact h2 _ _ ih k
theorem Rch.last {E : Int → Int → Prop} {p j : Int} (h : Rch E p j) : ∃ i, E i j := by
  cases h with
  | one h => exact ⟨_, h⟩
  | more _ k => exact ⟨_, k⟩
def edgeN (ls : List Lnk) (i j : Int) : Prop := ∃ l ∈ ls, l.frm = i ∧ l.to = j ∧ 0 ≤ i ∧ 0 ≤ j

/-! ### By sweeps -/
def edge1 (p : Int) (met : List Bool) (l : Lnk) : List Bool := if 0 ≤ l.frm ∧ 0 ≤ l.to ∧ (l.frm = p ∨ met.getD l.frm.toNat false = true) then met.set l.to.toNat true else met
def sweep (p : Int) (ls : List Lnk) (met : List Bool) : List Bool := ls.foldl (edge1 p) met
def rnd (p : Int) (ls : List Lnk) (n : Nat) : Nat → List Bool
  | 0 => List.replicate n false
  | r + 1 => sweep p ls (rnd p ls n r)
def LeB (m m' : List Bool) : Prop := ∀ j : Nat, m.getD j false = true → m'.getD j false = true
theorem edge1_len (p : Int) (met : List Bool) (l : Lnk) : (edge1 p met l).length = met.length := by unfold edge1; split <;> simp
theorem sweep_len (p : Int) : ∀ (ls : List Lnk) (met : List Bool), (sweep p ls met).length = met.length
  | [], _ => rfl
  | l :: ls, met => by
    show (sweep p ls (edge1 p met l)).length = _
    rw [sweep_len, edge1_len]
theorem rnd_len (p : Int) (ls : List Lnk) (n : Nat) : ∀ r, (rnd p ls n r).length = n
  | 0 => by simp [rnd]
  | r + 1 => by rw [rnd, sweep_len, rnd_len]
theorem getD_set_true (m : List Bool) (a j : Nat) : (m.set a true).getD j false = true ↔ (m.getD j false = true ∨ (j = a ∧ a < m.length)) := by
  simp only [List.getD_eq_getElem?_getD, List.getElem?_set]
  by_cases h : a = j
  · subst h
    by_cases h2 : a < m.length
    · simp [h2]
    · simp [h2]
  · rw [if_neg h]
    constructor
    · intro q; exact .inl q
    · rintro (q | ⟨q, _⟩)
      · exact q
      · exact absurd q.symm h
theorem edge1_le (p : Int) (met : List Bool) (l : Lnk) : LeB met (edge1 p met l) := by
  intro j h
  unfold edge1
  split
  · exact (getD_set_true _ _ _).2 (.inl h)
  · exact h
theorem sweep_le (p : Int) : ∀ (ls : List Lnk) (met : List Bool), LeB met (sweep p ls met)
  | [], _ => fun _ h => h
  | l :: ls, met => fun j h => sweep_le p ls (edge1 p met l) j (edge1_le p met l j h)
theorem sweep_sound (p : Int) (ls : List Lnk) : ∀ (ks : List Lnk) (met : List Bool), (∀ l ∈ ks, l ∈ ls) → (∀ j : Nat, met.getD j false = true → Rch (edgeN ls) p j) → ∀ j : Nat, (sweep p ks met).getD j false = true → Rch (edgeN ls) p j
  | [], _, _, h => h
  | l :: ks, met, hk, h => by
    refine sweep_sound p ls ks (edge1 p met l) (fun x hx => hk x (List.mem_cons_of_mem _ hx)) ?_
    intro j hj
    unfold edge1 at hj
    split at hj
    · rename_i hc
      rcases (getD_set_true _ _ _).1 hj with q | ⟨q, _⟩
      · exact h j q
      · subst q
        have e : ((l.to.toNat : Nat) : Int) = l.to := by omega
        rw [e]
        have hl : l ∈ ls := hk l List.mem_cons_self
        rcases hc.2.2 with q | q
        · exact .one ⟨l, hl, q, rfl, by omega, hc.2.1⟩
        · have := h _ q
          rw [show ((l.frm.toNat : Nat) : Int) = l.frm by omega] at this
          exact .more this ⟨l, hl, rfl, rfl, hc.1, hc.2.1⟩
    · exact h j hj
theorem sweep_hit (p : Int) : ∀ (ls : List Lnk) (met : List Bool) (l : Lnk), l ∈ ls → 0 ≤ l.frm → 0 ≤ l.to → l.to.toNat < met.length → (l.frm = p ∨ met.getD l.frm.toNat false = true) → (sweep p ls met).getD l.to.toNat false = true
  | x :: ls, met, l, hl, h1, h2, h3, h4 => by
    show (sweep p ls (edge1 p met x)).getD l.to.toNat false = true
    rcases List.mem_cons.1 hl with rfl | hl
    · refine sweep_le p ls _ _ ?_
      unfold edge1
      rw [if_pos ⟨h1, h2, h4⟩]
      exact (getD_set_true _ _ _).2 (.inr ⟨rfl, h3⟩)
    · refine sweep_hit p ls (edge1 p met x) l hl h1 h2 (by rw [edge1_len]; exact h3) ?_
      rcases h4 with h4 | h4
      · exact .inl h4
      · exact .inr (edge1_le p met x _ h4)
theorem LeB.tail {a b : Bool} {m m' : List Bool} (h : LeB (a :: m) (b :: m')) : LeB m m' := fun j hj => by have := h (j + 1); simpa using this (by simpa using hj)
theorem count_le : ∀ (m m' : List Bool), m.length = m'.length → LeB m m' → m.count true ≤ m'.count true
  | [], [], _, _ => Nat.le_refl _
  | a :: m, b :: m', hl, h => by
    have ih := count_le m m' (by simpa using hl) h.tail
    have h0 := h 0
    simp at h0
    rw [List.count_cons, List.count_cons]
    cases a <;> cases b <;> simp_all <;> omega
theorem count_lt : ∀ (m m' : List Bool), m.length = m'.length → LeB m m' → m ≠ m' → m.count true < m'.count true
  | [], [], _, _, hn => absurd rfl hn
  | a :: m, b :: m', hl, h, hn => by
    have hl' : m.length = m'.length := by simpa using hl
    have h0 := h 0
    simp at h0
    have hc := count_le m m' hl' h.tail
    rw [List.count_cons, List.count_cons]
    by_cases e : a = b
    · subst e
      have ih := count_lt m m' hl' h.tail (fun q => hn (by rw [q]))
      omega
    · cases a <;> cases b <;> simp_all <;> omega
theorem rnd_fix (p : Int) (ls : List Lnk) (n : Nat) : ∀ r, sweep p ls (rnd p ls n r) = rnd p ls n r ∨ r ≤ (rnd p ls n r).count true
  | 0 => .inr (Nat.zero_le _)
  | r + 1 => by
    rcases rnd_fix p ls n r with h | h
    · left
      show sweep p ls (sweep p ls (rnd p ls n r)) = sweep p ls (rnd p ls n r)
      rw [h, h]
    · by_cases e : sweep p ls (rnd p ls n r) = rnd p ls n r
      · left
        show sweep p ls (sweep p ls (rnd p ls n r)) = sweep p ls (rnd p ls n r)
        rw [e, e]
      · right
        have := count_lt (rnd p ls n r) (sweep p ls (rnd p ls n r)) (sweep_len _ _ _).symm (sweep_le _ _ _) (fun q => e q.symm)
        show r + 1 ≤ (sweep p ls (rnd p ls n r)).count true
        omega
theorem rnd_closed (p : Int) (ls : List Lnk) (n : Nat) : sweep p ls (rnd p ls n n) = rnd p ls n n := by
  rcases rnd_fix p ls n n with h | h
  · exact h
  · have hl := rnd_len p ls n n
    have hc : (rnd p ls n n).count true = (rnd p ls n n).length := Nat.le_antisymm List.count_le_length (by omega)
    have ha := List.count_eq_length.1 hc
    refine List.ext_getElem (sweep_len _ _ _) (fun i h1 h2 => ?_)
    have e2 : (rnd p ls n n)[i] = true := (ha _ (List.getElem_mem h2)).symm
    have := sweep_le p ls (rnd p ls n n) i (by rw [List.getD_eq_getElem?_getD, List.getElem?_eq_getElem h2, e2]; rfl)
    rw [List.getD_eq_getElem?_getD, List.getElem?_eq_getElem h1] at this
    rw [e2]; simpa using this
theorem rnd_sound (p : Int) (ls : List Lnk) (n : Nat) : ∀ (r : Nat) (j : Nat), (rnd p ls n r).getD j false = true → Rch (edgeN ls) p j
  | 0, j, h => by
    rw [rnd, List.getD_eq_getElem?_getD, List.getElem?_replicate] at h
    split at h <;> simp at h
  | r + 1, j, h => sweep_sound p ls ls (rnd p ls n r) (fun _ h => h) (rnd_sound p ls n r) j h
/-- The links end at processes, of which there are n, or outside. -/
def EndsOk (ls : List Lnk) (n : Nat) : Prop := ∀ l ∈ ls, (l.tgt ≠ outE → 0 ≤ l.to ∧ l.to < (n : Int)) ∧ (0 ≤ l.to → l.to < (n : Int)) ∧ l.frm < (n : Int)
theorem okN_ends {n : Net} (h : okN n = true) : EndsOk n.links n.progs.length := by
  intro l hl
  obtain ⟨_, h2, _, _⟩ := (okN_iff n).1 h
  have ht := (h2 l hl).2.2
  have hs := (h2 l hl).2.1
  have e1 : l.tgt.1 = l.to := rfl
  have e2 : l.src.1 = l.frm := rfl
  refine ⟨fun hne => ?_, fun h0 => ?_, ?_⟩
  · rcases ht with q | q
    · exact absurd q hne
    · obtain ⟨i, x, h1, h2, _⟩ := mem_ports.1 q
      have := (List.getElem?_eq_some_iff.1 h1).1
      omega
  · rcases ht with q | q
    · have : l.tgt.1 = -1 := by rw [q]; rfl
      omega
    · obtain ⟨i, x, h1, h2, _⟩ := mem_ports.1 q
      have := (List.getElem?_eq_some_iff.1 h1).1
      omega
  · rcases hs with q | q
    · have : l.src.1 = -1 := by rw [q]; rfl
      omega
    · obtain ⟨i, x, h1, h2, _⟩ := mem_ports.1 q
      have := (List.getElem?_eq_some_iff.1 h1).1
      omega
theorem edge_lt {ls : List Lnk} {n : Nat} (h : EndsOk ls n) {i j : Int} (e : edgeN ls i j) : 0 ≤ j ∧ j < (n : Int) := by
  obtain ⟨l, hl, h1, rfl, h3, h4⟩ := e
  exact ⟨h4, (h l hl).2.1 h4⟩
theorem rch_lt {ls : List Lnk} {n : Nat} (h : EndsOk ls n) {p j : Int} (e : Rch (edgeN ls) p j) : 0 ≤ j ∧ j < (n : Int) := by
  obtain ⟨i, e⟩ := e.last
  exact edge_lt h e
theorem met_iff {p : Int} {ls : List Lnk} {n : Nat} (hok : EndsOk ls n) (j : Nat) : (rnd p ls n n).getD j false = true ↔ Rch (edgeN ls) p j := by
  constructor
  · exact rnd_sound p ls n n j
  · intro h
    have hc := rnd_closed p ls n
    have key := h.closed (S := fun x => 0 ≤ x ∧ (rnd p ls n n).getD x.toNat false = true) ?_ ?_
    · simpa using key.2
    · rintro x ⟨l, hl, h1, h2, h3, h4⟩
      refine ⟨h4, ?_⟩
      have := sweep_hit p ls (rnd p ls n n) l hl (by omega) (by omega) (by rw [rnd_len]; have := (hok l hl).2.1 (by omega); omega) (.inl h1)
      rw [hc, h2] at this
      exact this
    · rintro x y ⟨hx0, hx⟩ ⟨l, hl, h1, h2, h3, h4⟩
      refine ⟨h4, ?_⟩
      have := sweep_hit p ls (rnd p ls n n) l hl (by omega) (by omega) (by rw [rnd_len]; have := (hok l hl).2.1 (by omega); omega) (.inr (by rw [h1]; exact hx))
      rw [hc, h2] at this
      exact this
/-- What is reached, in order. -/
def reachL (ls : List Lnk) (n : Nat) (p : Int) : List Int := ((List.range n).filter fun j => (rnd p ls n n).getD j false).map fun (j : Nat) => (j : Int)
theorem reachL_mem {p : Int} {ls : List Lnk} {n : Nat} (hok : EndsOk ls n) (j : Int) : j ∈ reachL ls n p ↔ Rch (edgeN ls) p j := by
  unfold reachL
  rw [List.mem_map]
  constructor
  · rintro ⟨k, hk, rfl⟩
    rw [List.mem_filter] at hk
    exact (met_iff hok k).1 hk.2
  · intro h
    have hlt := rch_lt hok h
    refine ⟨j.toNat, ?_, by omega⟩
    rw [List.mem_filter, List.mem_range]
    refine ⟨by omega, (met_iff hok _).2 ?_⟩
    rw [show ((j.toNat : Nat) : Int) = j by omega]
    exact h
theorem reachL_sorted (ls : List Lnk) (n : Nat) (p : Int) : (reachL ls n p).Pairwise (· < ·) := by
  unfold reachL
  rw [List.pairwise_map]
  refine (List.Pairwise.filter _ List.pairwise_lt_range).imp ?_
  intro a b h
  omega
theorem reachL_len (ls : List Lnk) (n : Nat) (p : Int) : (reachL ls n p).length ≤ n := by
  unfold reachL
  rw [List.length_map]
  have := List.length_filter_le (fun j => (rnd p ls n n).getD j false) (List.range n)
  rwa [List.length_range] at this

/-! ### By a list -/
def folStep (f : Int) (xs : List Int) (l : Lnk) : List Int := if l.frm = f ∧ l.tgt ≠ outE ∧ l.to ∉ xs then xs ++ [l.to] else xs
def follow (ls : List Lnk) (xs : List Int) (f : Int) : List Int := ls.foldl (folStep f) xs
theorem follow_step {ls : List Lnk} {k : Nat} {x : Lnk} (hx : ls[k]? = some x) (xs : List Int) (f : Int) : follow (ls.take (k + 1)) xs f = folStep f (follow (ls.take k) xs f) x := by
  have hk := (List.getElem?_eq_some_iff.1 hx).1
  unfold follow
  rw [List.take_succ_eq_append_getElem hk, (List.getElem?_eq_some_iff.1 hx).2, List.foldl_append]
  rfl
theorem folStep_skip {f : Int} {xs : List Int} {l : Lnk} (h : ¬ (l.frm = f ∧ l.tgt ≠ outE ∧ l.to ∉ xs)) : folStep f xs l = xs := if_neg h
theorem folStep_add {f : Int} {xs : List Int} {l : Lnk} (h : l.frm = f ∧ l.tgt ≠ outE ∧ l.to ∉ xs) : folStep f xs l = xs ++ [l.to] := if_pos h
theorem folStep_pre (f : Int) (xs : List Int) (l : Lnk) : ∃ ys, folStep f xs l = xs ++ ys := by
  unfold folStep
  split
  · exact ⟨_, rfl⟩
  · exact ⟨[], by simp⟩
theorem follow_pre : ∀ (ls : List Lnk) (xs : List Int) (f : Int), ∃ ys, follow ls xs f = xs ++ ys
  | [], xs, f => ⟨[], by simp [follow]⟩
  | l :: ls, xs, f => by
    obtain ⟨ys, h⟩ := folStep_pre f xs l
    obtain ⟨zs, h2⟩ := follow_pre ls (folStep f xs l) f
    exact ⟨ys ++ zs, by show follow ls (folStep f xs l) f = _; rw [h2, h, List.append_assoc]⟩
theorem follow_nodup : ∀ (ls : List Lnk) (xs : List Int) (f : Int), xs.Nodup → (follow ls xs f).Nodup
  | [], _, _, h => h
  | l :: ls, xs, f, h => by
    refine follow_nodup ls (folStep f xs l) f ?_
    unfold folStep
    split
    · rename_i hc
      rw [List.nodup_append]
      refine ⟨h, by simp, ?_⟩
      intro a ha b hb
      rw [List.mem_singleton] at hb
      subst hb
      intro e
      subst e
      exact hc.2.2 ha
    · exact h
theorem follow_new : ∀ (ls : List Lnk) (xs : List Int) (f j : Int), j ∈ follow ls xs f → j ∈ xs ∨ ∃ l ∈ ls, l.frm = f ∧ l.tgt ≠ outE ∧ l.to = j
  | [], _, _, _, h => .inl h
  | l :: ls, xs, f, j, h => by
    rcases follow_new ls (folStep f xs l) f j h with q | ⟨x, hx, q⟩
    · unfold folStep at q
      split at q
      · rename_i hc
        rcases List.mem_append.1 q with q | q
        · exact .inl q
        · rw [List.mem_singleton] at q
          exact .inr ⟨l, List.mem_cons_self, hc.1, hc.2.1, q.symm⟩
      · exact .inl q
    · exact .inr ⟨x, List.mem_cons_of_mem _ hx, q⟩
theorem follow_all : ∀ (ls : List Lnk) (xs : List Int) (f : Int) (l : Lnk), l ∈ ls → l.frm = f → l.tgt ≠ outE → l.to ∈ follow ls xs f
  | x :: ls, xs, f, l, hl, h1, h2 => by
    show l.to ∈ follow ls (folStep f xs x) f
    rcases List.mem_cons.1 hl with rfl | hl
    · obtain ⟨ys, e⟩ := follow_pre ls (folStep f xs l) f
      rw [e]
      refine List.mem_append_left _ ?_
      unfold folStep
      split
      · exact List.mem_append_right _ (by simp)
      · rename_i hc
        by_cases q : l.to ∈ xs
        · exact q
        · exact absurd ⟨h1, h2, q⟩ hc
    · exact follow_all ls _ f l hl h1 h2
theorem follow_len : ∀ (ls : List Lnk) (xs : List Int) (f : Int), (follow ls xs f).length ≤ xs.length + ls.length
  | [], xs, f => by simp [follow]
  | l :: ls, xs, f => by
    have := follow_len ls (folStep f xs l) f
    show (follow ls (folStep f xs l) f).length ≤ _
    have h : (folStep f xs l).length ≤ xs.length + 1 := by unfold folStep; split <;> simp
    rw [List.length_cons]
    omega
structure Bfs (ls : List Lnk) (p : Int) (xs : List Int) (next : Nat) : Prop where
  nd : xs.Nodup
  sound : ∀ j ∈ xs, Rch (edgeN ls) p j
  first : ∀ j, edgeN ls p j → j ∈ xs
  done : ∀ i, i < next → ∀ j, edgeN ls (xs.getD i 0) j → j ∈ xs
  le : next ≤ xs.length
theorem edge_of {ls : List Lnk} {n : Nat} (hok : EndsOk ls n) {f : Int} (hf : 0 ≤ f) {l : Lnk} (hl : l ∈ ls) (h1 : l.frm = f) (h2 : l.tgt ≠ outE) : edgeN ls f l.to := ⟨l, hl, h1, rfl, hf, ((hok l hl).1 h2).1⟩
theorem edge_link {ls : List Lnk} {f j : Int} (h : edgeN ls f j) : ∃ l ∈ ls, l.frm = f ∧ l.tgt ≠ outE ∧ l.to = j := by
  obtain ⟨l, hl, h1, h2, h3, h4⟩ := h
  refine ⟨l, hl, h1, fun e => ?_, h2⟩
  have : l.tgt.1 = -1 := by rw [e]; rfl
  have e1 : l.tgt.1 = l.to := rfl
  omega
theorem Bfs.start {ls : List Lnk} {n : Nat} (hok : EndsOk ls n) {p : Int} (hp : 0 ≤ p) : Bfs ls p (follow ls [] p) 0 := by
  refine ⟨follow_nodup ls [] p List.nodup_nil, fun j hj => ?_, fun j hj => ?_, fun i hi => absurd hi (by omega), Nat.zero_le _⟩
  · rcases follow_new ls [] p j hj with q | ⟨l, hl, h1, h2, rfl⟩
    · simp at q
    · exact .one (edge_of hok hp hl h1 h2)
  · obtain ⟨l, hl, h1, h2, rfl⟩ := edge_link hj
    exact follow_all ls [] p l hl h1 h2
theorem Bfs.step {ls : List Lnk} {n : Nat} (hok : EndsOk ls n) {p : Int} {xs : List Int} {next : Nat} (h : Bfs ls p xs next) (hlt : next < xs.length) : Bfs ls p (follow ls xs (xs.getD next 0)) (next + 1) := by
  obtain ⟨ys, e⟩ := follow_pre ls xs (xs.getD next 0)
  have hmem : xs.getD next 0 ∈ xs := by rw [List.getD_eq_getElem?_getD, List.getElem?_eq_getElem hlt]; exact List.getElem_mem hlt
  have hr := h.sound _ hmem
  have h0 := (rch_lt hok hr).1
  have hsub : ∀ j ∈ xs, j ∈ follow ls xs (xs.getD next 0) := fun j hj => by rw [e]; exact List.mem_append_left _ hj
  refine ⟨follow_nodup _ _ _ h.nd, fun j hj => ?_, fun j hj => hsub j (h.first j hj), fun i hi j hj => ?_, ?_⟩
  · rcases follow_new ls xs _ j hj with q | ⟨l, hl, h1, h2, rfl⟩
    · exact h.sound j q
    · exact .more hr (edge_of hok h0 hl h1 h2)
  · have eg : (follow ls xs (xs.getD next 0)).getD i 0 = xs.getD i 0 := by
      rw [e, List.getD_eq_getElem?_getD, List.getElem?_append_left (by omega), ← List.getD_eq_getElem?_getD]
    rw [eg] at hj
    by_cases q : i = next
    · subst q
      obtain ⟨l, hl, h1, h2, rfl⟩ := edge_link hj
      exact follow_all ls xs _ l hl h1 h2
    · exact hsub j (h.done i (by omega) j hj)
  · rw [e, List.length_append]; omega
theorem Bfs.mem {ls : List Lnk} {p : Int} {xs : List Int} (h : Bfs ls p xs xs.length) (j : Int) : j ∈ xs ↔ Rch (edgeN ls) p j := by
  refine ⟨h.sound j, fun r => r.closed (S := fun x => x ∈ xs) h.first (fun i k hi hk => ?_)⟩
  obtain ⟨q, hq, e⟩ := List.getElem_of_mem hi
  refine h.done q hq k ?_
  rw [List.getD_eq_getElem?_getD, List.getElem?_eq_getElem hq]
  simpa [e] using hk
theorem nodup_sub_len : ∀ (xs ys : List Int), xs.Nodup → (∀ x ∈ xs, x ∈ ys) → xs.length ≤ ys.length
  | [], _, _, _ => Nat.zero_le _
  | x :: xs, ys, hn, hs => by
    have hx := hs x List.mem_cons_self
    rw [List.nodup_cons] at hn
    have := nodup_sub_len xs (ys.erase x) hn.2 (fun y hy => (List.mem_erase_of_ne (fun e => hn.1 (by rw [← e]; exact hy))).2 (hs y (List.mem_cons_of_mem _ hy)))
    rw [List.length_erase_of_mem hx] at this
    have h0 : 0 < ys.length := List.length_pos_of_mem hx
    rw [List.length_cons]
    omega
theorem Bfs.len {ls : List Lnk} {n : Nat} (hok : EndsOk ls n) {p : Int} {xs : List Int} {next : Nat} (h : Bfs ls p xs next) : xs.length ≤ n := by
  have := nodup_sub_len xs ((List.range n).map fun (j : Nat) => (j : Int)) h.nd (fun x hx => by
    have := rch_lt hok (h.sound x hx)
    exact List.mem_map.2 ⟨x.toNat, List.mem_range.2 (by omega), by omega⟩)
  rwa [List.length_map, List.length_range] at this
theorem sorted_eq : ∀ (xs ys : List Int), xs.Pairwise (· < ·) → ys.Pairwise (· < ·) → (∀ j, j ∈ xs ↔ j ∈ ys) → xs = ys
  | [], [], _, _, _ => rfl
  | [], y :: ys, _, _, h => absurd ((h y).2 List.mem_cons_self) (by simp)
  | x :: xs, [], _, _, h => absurd ((h x).1 List.mem_cons_self) (by simp)
  | x :: xs, y :: ys, hx, hy, h => by
    rw [List.pairwise_cons] at hx hy
    have e : x = y := by
      rcases List.mem_cons.1 ((h x).1 List.mem_cons_self) with q | q
      · exact q
      · rcases List.mem_cons.1 ((h y).2 List.mem_cons_self) with r | r
        · exact r.symm
        · have := hx.1 y r
          have := hy.1 x q
          omega
    subst e
    rw [sorted_eq xs ys hx.2 hy.2 (fun j => ?_)]
    constructor
    · intro hj
      rcases List.mem_cons.1 ((h j).1 (List.mem_cons_of_mem _ hj)) with q | q
      · subst q
        exact absurd (hx.1 j hj) (by omega)
      · exact q
    · intro hj
      rcases List.mem_cons.1 ((h j).2 (List.mem_cons_of_mem _ hj)) with q | q
      · subst q
        exact absurd (hy.1 j hj) (by omega)
      · exact q
def sortI (xs : List Int) : List Int := xs.mergeSort fun x y => decide (x ≤ y)
theorem sortI_perm (xs : List Int) : (sortI xs).Perm xs := List.mergeSort_perm _ _
theorem sortI_len (xs : List Int) : (sortI xs).length = xs.length := (sortI_perm xs).length_eq
theorem Bfs.sorted {ls : List Lnk} {n : Nat} (hok : EndsOk ls n) {p : Int} {xs : List Int} (h : Bfs ls p xs xs.length) : sortI xs = reachL ls n p := by
  refine sorted_eq _ _ ?_ (reachL_sorted ls n p) (fun j => ?_)
  · have hs : (sortI xs).Pairwise (fun x y => decide (x ≤ y) = true) := List.pairwise_mergeSort (fun a b c h1 h2 => by simp at h1 h2 ⊢; omega) (fun a b => by simp; omega) xs
    have hn : (sortI xs).Nodup := (sortI_perm xs).nodup_iff.2 h.nd
    rw [List.nodup_iff_pairwise_ne] at hn
    refine (hs.and hn).imp ?_
    rintro a b ⟨h1, h2⟩
    simp at h1
    omega
  · rw [(sortI_perm xs).mem_iff, h.mem j, reachL_mem hok]
def reachedFromR1 (n : Net) (p : Int) : Bool := okN n && decide (0 ≤ p ∧ p < (n.progs.length : Int))
def reachedFromR0 (n : Net) (p : Int) : List Int := if reachedFromR1 n p then reachL n.links n.progs.length p else []
theorem reachedFrom_len0 (n : Net) (p : Int) : (reachedFromR0 n p).length ≤ 1000000 := by
  unfold reachedFromR0
  split
  · rename_i h
    unfold reachedFromR1 at h
    rw [Bool.and_eq_true] at h
    have := reachL_len n.links n.progs.length p
    have := (okN_len h.1).1
    omega
  · simp
def hasCycleR0 (n : Net) : Bool := okN n && (List.range n.progs.length).any fun i => (rnd i n.links n.progs.length n.progs.length).getD i false
end Go.Proofs.Ythniafpkkgcjnab
