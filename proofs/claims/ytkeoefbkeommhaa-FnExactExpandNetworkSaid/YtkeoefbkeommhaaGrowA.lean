/-
  Rows of actors, and two rows of streams side by side, that grow; what they leave as parts of a state. No statement of the seat is proved here.
-/
import Derived.Test.YtkeoefbkeommhaaStR
import Derived.Test.YtkeoefbkeommhaaTok
namespace Go.Proofs.Ytkeoefbkeommhaa
open Go.RowKit

theorem Out.of_below {lo hi : Nat} {w w' : World} (hb : Below w.heap.size w w') : Out lo hi w w' := ⟨hb.os, hb.tape, hb.output, hb.size, fun k hk _ => hb.block k hk⟩
theorem Out.belowHi {lo hi : Nat} {a w w' : World} (h : Out lo hi a w) (hb : Below w.heap.size w w') : Out lo hi a w' := h.trans (Out.of_below hb)
theorem Out.grownHi {lo hi : Nat} {a w w' : World} {row : Option Nat} (h : Out lo hi a w) (hg : w.grownBy w' row) (hr : ∀ q, row = some q → a.heap.size ≤ q) : Out lo hi a w' :=
  ⟨hg.os.trans h.os, hg.tape.trans h.tape, hg.output.trans h.output, Nat.le_trans h.size hg.size, fun k hk ho => (hg.block k (Nat.lt_of_lt_of_le hk h.size) (fun e => by have := hr k e.symm; omega)).trans (h.block k hk ho)⟩
theorem lit_cells (w : World) (cs : Array Value) (T : Nat) : ∀ j u, cs.toList[j]? = some u → (w.alloc (.cells cs T)).cell? ((⟨w.heap.size, 0, none⟩ : Addr).add j) = some u := by
  intro j u hj
  rw [Addr.add_lit, Nat.zero_add, cell_of (hp1 w _), ← Array.getElem?_toList]; exact hj
/-- What a growth of a row of another type leaves of a row of ints. -/
theorem own_grownN {lo lo2 T m sz : Nat} {w w' : World} {v o : Value} {xs : List Int} {L : List Value} (h : Own lo w v xs) (hr : w.ownsRow lo2 T sz o m L) (hT : T ≠ 3) (hg : w.grownBy w' o.ownBlock) : Own lo w' v xs := by
  rcases hr.2 with ⟨rfl, _⟩ | ⟨r, cap, cur, rfl, hbb, hq, rest⟩
  · refine ⟨h.1, ?_⟩
    rcases h.2 with hn | ⟨q, cap, cur, rfl, hb, hq, rest⟩
    · exact .inl hn
    · exact .inr ⟨q, cap, cur, rfl, hb, by rw [hg.block q (lt_of hq) (by simp [Value.ownBlock])]; exact hq, rest⟩
  · exact own_far h hq hT (fun k hk hne => hg.block k hk (by simp only [Value.ownBlock, ne_eq, Option.some.injEq]; exact hne))

/-- The cells of a row of actors. -/
def cellsA : List Act → List Value → List Value
  | a :: xs, u :: us => .int .i64 a.pc :: u :: cellsA xs us
  | _, _ => []
theorem cellsA_len : ∀ (xs : List Act) (us : List Value), xs.length = us.length → (cellsA xs us).length = us.length * 2
  | [], [], _ => rfl
  | [], _ :: _, h => by simp at h
  | _ :: _, [], h => by simp at h
  | a :: xs, u :: us, h => by
    simp only [List.length_cons, Nat.add_right_cancel_iff] at h
    simp only [cellsA, List.length_cons, cellsA_len xs us h]
    omega
theorem cellsA_snoc : ∀ (xs : List Act) (us : List Value) (a : Act) (u : Value), xs.length = us.length → cellsA (xs ++ [a]) (us ++ [u]) = cellsA xs us ++ [.int .i64 a.pc, u]
  | [], [], _, _, _ => rfl
  | [], _ :: _, _, _, h => by simp at h
  | _ :: _, [], _, _, h => by simp at h
  | b :: xs, x :: us, a, u, h => by
    simp only [List.length_cons, Nat.add_right_cancel_iff] at h
    simp only [List.cons_append, cellsA, cellsA_snoc xs us a u h]
theorem cellsA_at : ∀ (xs : List Act) (us : List Value) (i : Nat) (a : Act) (u : Value), xs[i]? = some a → us[i]? = some u → (cellsA xs us)[i * 2]? = some (.int .i64 a.pc) ∧ (cellsA xs us)[i * 2 + 1]? = some u
  | [], _, _, _, _, h, _ => by simp at h
  | _ :: _, [], _, _, _, _, h => by simp at h
  | b :: xs, x :: us, 0, a, u, h, k => by
    simp at h k; subst h; subst k; exact ⟨rfl, rfl⟩
  | b :: xs, x :: us, i + 1, a, u, h, k => by
    rw [List.getElem?_cons_succ] at h k
    have e := cellsA_at xs us i a u h k
    rw [show (i + 1) * 2 = i * 2 + 1 + 1 by omega]
    simp only [cellsA, List.getElem?_cons_succ]
    exact e

/-- Queues and what was sent, in two slices side by side. -/
def QR (lo hi : Nat) (w : World) (q r : Value) (Q S : List (List Int)) : Prop :=
  ∃ u2 u3, VR lo hi w q u2 ∧ VR lo hi w r u3 ∧ u2.length = Q.length ∧ u3.length = S.length ∧ Fam lo w (u2 ++ u3) (Q ++ S) ∧ ∀ x ∈ u2 ++ u3, ∀ b, x.ownBlock = some b → b < hi
theorem QR.of {l1 h1 l2 h2 : Nat} {w : World} {q r : Value} {Q S : List (List Int)} (hq : RowsH l1 h1 w q Q) (hr : RowsH l2 h2 w r S) (h : h1 ≤ l2) (h' : l1 ≤ h1) (h'' : l2 ≤ h2) : QR l1 h2 w q r Q S := by
  obtain ⟨u2, v2, F2, b2⟩ := hq
  obtain ⟨u3, v3, F3, b3⟩ := hr
  have e2 := F2.len
  have e3 := F3.len
  simp only [List.length_append, List.length_cons, List.length_nil] at e2 e3
  have G2 := F2.left (by omega)
  have G3 := F3.left (by omega)
  refine ⟨u2, u3, v2.mono (Nat.le_refl _) (by omega), v3.mono (by omega) (Nat.le_refl _), by omega, by omega, G2.app G3 (fun x hx b e => by have := b2 x (List.mem_append_left _ hx) b e; omega) (Nat.le_refl _) (by omega), fun x hx b e => ?_⟩
  rcases List.mem_append.1 hx with hx | hx
  · have := b2 x (List.mem_append_left _ hx) b e; omega
  · exact b3 x (List.mem_append_left _ hx) b e
theorem QR.below {lo hi : Nat} {w w' : World} {q r : Value} {Q S : List (List Int)} (h : QR lo hi w q r Q S) (hb : Below w.heap.size w w') : QR lo hi w' q r Q S := by
  obtain ⟨u2, u3, v2, v3, l2, l3, hF, hh⟩ := h
  exact ⟨u2, u3, v2.keep (fun B cur _ _ q => blk_in q hb), v3.keep (fun B cur _ _ q => blk_in q hb), l2, l3, hF.below hb, hh⟩
/-- Nothing that was there has changed, but a block of another type. -/
theorem QR.outB {lo hi B : Nat} {w w' : World} {q r : Value} {Q S : List (List Int)} {cs : Array Value} {T : Nat} (h : QR lo hi w q r Q S) (hB : w.heap[B]? = some (.cells cs T)) (h1 : T ≠ 3) (h2 : T ≠ 26) (ho : Out B (B + 1) w w') : QR lo hi w' q r Q S := by
  have key : ∀ k o, w.heap[k]? = some o → (k ≠ B) → w'.heap[k]? = some o := fun k o hk hne => (ho.block k (lt_of hk) (by omega)).trans hk
  obtain ⟨u2, u3, v2, v3, l2, l3, hF, hh⟩ := h
  have kv : ∀ (k : Nat) (cur : Array Value), w.heap[k]? = some (.cells cur 26) → w'.heap[k]? = some (.cells cur 26) := fun k cur hk => key k _ hk (fun e => by subst e; rw [hk] at hB; simp at hB; exact h2 hB.2.symm)
  refine ⟨u2, u3, v2.keep (fun B cur _ _ q => kv B cur q), v3.keep (fun B cur _ _ q => kv B cur q), l2, l3, ⟨hF.len, fun i u xs hu hx => ?_, hF.apart⟩, hh⟩
  have hv := hF.own i u xs hu hx
  refine ⟨hv.1, ?_⟩
  rcases hv.2 with hn | ⟨g, cap, cur, rfl, hbb, hg, rest⟩
  · exact .inl hn
  · exact .inr ⟨g, cap, cur, rfl, hbb, key g _ hg (fun e => by subst e; rw [hg] at hB; simp at hB; exact h1 hB.2.symm), rest⟩
/-- Two slices of streams that grow, the first k and the first j of these. -/
def GrowQ (lo k j : Nat) (w : World) (q r : Value) (xss : List (List Int)) : Prop :=
  ∃ us vs, us.length = k ∧ vs.length = j ∧ (xss.take k).length = k ∧ (xss.take j).length = j ∧ w.ownsRow lo 26 1 q k us ∧ w.ownsRow lo 26 1 r j vs ∧ Apart q r ∧ Fam lo w (us ++ vs) (xss.take k ++ xss.take j)
theorem GrowQ.nil (lo : Nat) (w : World) (xss : List (List Int)) : GrowQ lo 0 0 w (.slice none 0 0) (.slice none 0 0) xss :=
  ⟨[], [], rfl, rfl, rfl, rfl, World.ownsRow_nil _ _ _ _, World.ownsRow_nil _ _ _ _, .inl rfl, ⟨rfl, fun i u x h => by simp at h, fun i j u v h => by simp at h⟩⟩
theorem GrowQ.shape {lo k j : Nat} {w : World} {q r : Value} {xss : List (List Int)} (h : GrowQ lo k j w q r xss) : (∃ a c, q = .slice a k c) ∧ ∃ a c, r = .slice a j c := by
  obtain ⟨us, vs, _, _, _, _, h1, h2, _⟩ := h
  constructor
  · rcases h1.2 with ⟨rfl, rfl⟩ | ⟨g, cap, cur, rfl, _⟩ <;> exact ⟨_, _, rfl⟩
  · rcases h2.2 with ⟨rfl, rfl⟩ | ⟨g, cap, cur, rfl, _⟩ <;> exact ⟨_, _, rfl⟩
theorem GrowQ.below {lo k j : Nat} {w w' : World} {q r : Value} {xss : List (List Int)} (h : GrowQ lo k j w q r xss) (hb : Below w.heap.size w w') : GrowQ lo k j w' q r xss := by
  obtain ⟨us, vs, a, b, c, d, h1, h2, h3, h4⟩ := h
  exact ⟨us, vs, a, b, c, d, row_below h1 hb, row_below h2 hb, h3, h4.below hb⟩
theorem GrowQ.out {lo k j l2 h2 : Nat} {w w' : World} {q r : Value} {xss : List (List Int)} (h : GrowQ lo k j w q r xss) (ho : Out l2 h2 w w') (hd : h2 ≤ lo) : GrowQ lo k j w' q r xss := by
  obtain ⟨us, vs, a, b, c, d, h1, k2, h3, h4⟩ := h
  exact ⟨us, vs, a, b, c, d, row_out h1 ho (fun q e => .inr (Nat.le_trans hd (World.ownsRow.lt h1 q e).1)), row_out k2 ho (fun q e => .inr (Nat.le_trans hd (World.ownsRow.lt k2 q e).1)), h3, h4.out (hi := w.heap.size) (fam_hi h4) ho (.inr hd)⟩
theorem GrowQ.swap {lo k j : Nat} {w : World} {q r : Value} {xss : List (List Int)} (h : GrowQ lo k j w q r xss) : GrowQ lo j k w r q xss := by
  obtain ⟨us, vs, a, b, c, d, h1, h2, h3, h4⟩ := h
  exact ⟨vs, us, b, a, d, c, h2, h1, h3.symm, h4.rot (by omega)⟩
/-- The second of the two grows by a fresh row. -/
theorem GrowQ.step2 {lo k j B : Nat} {w3 w4 : World} {q r r' x : Value} {xss : List (List Int)} {row : List Int} {us vs : List Value} (a : us.length = k) (b : vs.length = j) (c : (xss.take k).length = k) (h1 : w3.ownsRow lo 26 1 q k us) (h2 : w3.ownsRow lo 26 1 r j vs) (h3 : Apart q r)
    (hF : Fam lo w3 (us ++ vs) (xss.take k ++ xss.take j)) (hbd : ∀ u ∈ us ++ vs, ∀ p, u.ownBlock = some p → p < B) (hx : Own B w3 x row) (hlo : lo ≤ B) (hrow : xss[j]? = some row)
    (hown : w4.ownsRow lo 26 1 r' (j + 1) (vs ++ [x])) (hg : w3.grownBy w4 r.ownBlock) (hat : r'.ownBlock = r.ownBlock ∨ r'.ownBlock = some w3.heap.size) : GrowQ lo k (j + 1) w4 q r' xss := by
  have hq := (List.getElem?_eq_some_iff.1 hrow)
  have e : xss.take (j + 1) = xss.take j ++ [row] := by rw [List.take_succ_eq_append_getElem hq.1, hq.2]
  refine ⟨us, vs ++ [x], a, by simp [b], c, by have := hq.1; simp; omega, World.ownsRow.kept h1 hg h3, hown, ?_, ?_⟩
  · rcases hat with hat | hat
    · unfold Apart at h3 ⊢; rw [hat]; exact h3
    · cases e1 : q.ownBlock with
      | none => exact .inl e1
      | some p =>
        have := (World.ownsRow.lt h1 p e1).2
        right; rw [e1, hat]; intro e2; simp at e2; omega
  · rw [e, ← List.append_assoc, ← List.append_assoc]
    refine hF.snoc (fun u ys q => own_grownN q h2 (by decide) hg) (own_grownN (hx.mono hlo) h2 (by decide) hg) (fun u ys q hu => ?_)
    cases q1 : u.ownBlock with
    | none => exact .inl q1
    | some c =>
      right
      rw [q1]
      intro q2
      have := hbd u hu c q1
      have := (hx.lt c q2.symm).1
      omega
theorem GrowQ.qr {lo m : Nat} {w : World} {q r : Value} {xss : List (List Int)} (h : GrowQ lo m m w q r xss) (hm : xss.length = m) : QR lo w.heap.size w q r xss xss := by
  obtain ⟨us, vs, a, b, c, d, h1, h2, h3, hF⟩ := h
  rw [List.take_of_length_le (by omega)] at hF
  have vr : ∀ (v : Value) (us : List Value), us.length = m → w.ownsRow lo 26 1 v m us → VR lo w.heap.size w v us := fun v us hl h1 => by
    rcases h1.2 with ⟨rfl, h0⟩ | ⟨g, cap, cur, rfl, hbb, hg, h2, h4, h5, h6⟩
    · exact .inl ⟨rfl, List.length_eq_zero_iff.1 (by omega)⟩
    · exact .inr ⟨g, cap, cur, by rw [hl], hbb, lt_of hg, by omega, h4, hg, by rw [hl]; rw [Nat.mul_one] at h6; exact h6⟩
  exact ⟨us, vs, vr q us a h1, vr r vs b h2, by omega, by omega, hF, fam_hi hF⟩
theorem sumA_le {c : Nat} : ∀ (xs : List Act), (∀ x ∈ xs, x.regs.length ≤ c) → sumA xs ≤ (c + 1) * xs.length
  | [], _ => by simp [sumA]
  | x :: xs, h => by
    have h1 := sumA_le xs (fun y hy => h y (List.mem_cons_of_mem _ hy))
    have h2 := h x (List.mem_cons_self ..)
    unfold sumA at h1 ⊢
    rw [List.map_cons, List.sum_cons, List.length_cons, Nat.mul_add, Nat.mul_one]
    omega
end Go.Proofs.Ytkeoefbkeommhaa
