/-
  Orders; a network whose processes have other numbers; PermuteNetwork of the program. No statement of the seat is proved here.
-/
import Derived.Test.YtkeoefbkeommhaaNetL
import Derived.Test.YtkeoefbkeommhaaNetG
import Derived.Deep.CutRange
namespace Go.Proofs.Ytkeoefbkeommhaa
open Go.RowKit

theorem nodup_sub : ∀ (a b : List Int), a.Nodup → (∀ x ∈ a, x ∈ b) → a.length ≤ b.length
  | [], b, _, _ => by simp
  | x :: a, b, hn, hs => by
    rw [List.nodup_cons] at hn
    have hx := hs x (List.mem_cons_self ..)
    have h := nodup_sub a (b.erase x) hn.2 (fun y hy => (List.mem_erase_of_ne (fun e => hn.1 (by rw [← e]; exact hy))).2 (hs y (List.mem_cons_of_mem _ hy)))
    rw [List.length_erase_of_mem hx] at h
    have := List.length_pos_of_mem hx
    rw [List.length_cons]
    omega
def rngI (n : Nat) : List Int := (List.range n).map fun (k : Nat) => (k : Int)
theorem rngI_len (n : Nat) : (rngI n).length = n := by unfold rngI; simp
theorem rngI_mem {n : Nat} {x : Int} : x ∈ rngI n ↔ 0 ≤ x ∧ x < (n : Int) := by
  unfold rngI
  rw [List.mem_map]
  constructor
  · rintro ⟨k, hk, rfl⟩
    rw [List.mem_range] at hk
    omega
  · intro h
    exact ⟨x.toNat, by rw [List.mem_range]; omega, by omega⟩
theorem rngI_nodup (n : Nat) : (rngI n).Nodup := by
  unfold rngI
  rw [List.nodup_iff_pairwise_ne, List.pairwise_map]
  exact (List.nodup_iff_pairwise_ne.1 List.nodup_range).imp (fun h e => h (by omega))
theorem isOrd_len {m : Nat} {xs : List Int} (h : isOrdB m xs = true) : xs.length = m := by
  unfold isOrdB at h; rw [Bool.and_eq_true] at h; exact of_decide_eq_true h.1
theorem isOrd_all {m : Nat} {xs : List Int} (h : isOrdB m xs = true) : ∀ x ∈ rngI m, x ∈ xs := by
  intro x hx
  have hb := rngI_mem.1 hx
  unfold isOrdB at h
  rw [Bool.and_eq_true] at h
  have q := of_decide_eq_true (upTo_at (p := fun k => decide ((k : Int) ∈ xs)) h.2 (k := x.toNat) (by omega))
  rwa [show ((x.toNat : Nat) : Int) = x by omega] at q
theorem isOrd_rng {m : Nat} {xs : List Int} (h : isOrdB m xs = true) : ∀ x ∈ xs, 0 ≤ x ∧ x < (m : Int) := by
  intro x hx
  by_cases hb : 0 ≤ x ∧ x < (m : Int)
  · exact hb
  · exfalso
    have q := nodup_sub (rngI m) (xs.erase x) (rngI_nodup m) (fun y hy => (List.mem_erase_of_ne (fun e => hb (by subst e; exact rngI_mem.1 hy))).2 (isOrd_all h y hy))
    rw [rngI_len, List.length_erase_of_mem hx, isOrd_len h] at q
    have := List.length_pos_of_mem hx
    have := isOrd_len h
    omega
theorem isOrd_new {m k : Nat} {xs : List Int} {x : Int} (h : isOrdB m xs = true) (hx : xs[k]? = some x) : x ∉ xs.take k := by
  intro hm
  have hk := (List.getElem?_eq_some_iff.1 hx).1
  have q := nodup_sub (rngI m) (xs.take k ++ xs.drop (k + 1)) (rngI_nodup m) (fun y hy => by
    have hy2 := isOrd_all h y hy
    rw [← List.take_append_drop k xs, List.drop_eq_getElem_cons hk, (List.getElem?_eq_some_iff.1 hx).2] at hy2
    rw [List.mem_append] at hy2 ⊢
    rcases hy2 with q | q
    · exact .inl q
    · rcases List.mem_cons.1 q with rfl | q
      · exact .inl hm
      · exact .inr q)
  rw [rngI_len, List.length_append, List.length_take, List.length_drop, isOrd_len h] at q
  have := isOrd_len h
  omega
theorem isOrd_of {m : Nat} {xs : List Int} (hl : xs.length = m) (hn : xs.Nodup) (hr : ∀ x ∈ xs, 0 ≤ x ∧ x < (m : Int)) : isOrdB m xs = true := by
  unfold isOrdB
  rw [decide_eq_true hl, Bool.true_and]
  unfold upTo
  rw [List.all_eq_true]
  intro k hk
  rw [List.mem_range] at hk
  refine decide_eq_true (Decidable.byContradiction fun hno => ?_)
  have q := nodup_sub ((k : Int) :: xs) (rngI m) (List.nodup_cons.2 ⟨hno, hn⟩) (fun y hy => by
    rcases List.mem_cons.1 hy with rfl | hy
    · exact rngI_mem.2 (by omega)
    · exact rngI_mem.2 (hr y hy))
  rw [rngI_len, List.length_cons] at q
  omega
def permP (ps : List Prg) (xs : List Int) : List Prg := xs.map fun i => ps.getD i.toNat prg0
def permN (n : Net) (xs : List Int) : Net := ⟨permP n.progs xs, n.links.map (renL (ixI xs))⟩
def permB (n : Net) (xs : List Int) : Bool := okN n && isOrdB n.progs.length xs
def permuteNetworkR0 (n : Net) (xs : List Int) : Net := if permB n xs then permN n xs else ⟨[], []⟩
theorem perm_no {n : Net} {xs : List Int} (h : permB n xs = false) : permuteNetworkR0 n xs = ⟨[], []⟩ := by unfold permuteNetworkR0; rw [h]; rfl
theorem perm_yes {n : Net} {xs : List Int} (h : permB n xs = true) : permuteNetworkR0 n xs = permN n xs := by unfold permuteNetworkR0; rw [h]; rfl
theorem permP_at {ps : List Prg} {xs : List Int} {k yy : Nat} {x : Prg} (hy : xs[k]? = some ((yy : Nat) : Int)) (hx : ps[yy]? = some x) : (permP ps xs)[k]? = some x := by
  unfold permP
  rw [List.getElem?_map, hy]
  simp [List.getD_eq_getElem?_getD, hx]
theorem perm_small {n : Net} {xs : List Int} (h : okN n = true) (ho : isOrdB n.progs.length xs = true) : SmallN (permN n xs) ∧ szN (permN n xs) ≤ 50000 := by
  have hl := okN_len h
  have hx := isOrd_len ho
  have hp : ∀ p ∈ (permN n xs).progs, p.code.length ≤ 24 := by
    intro p hp
    obtain ⟨i, hi, rfl⟩ := List.mem_map.1 (show p ∈ xs.map _ from hp)
    have hr := isOrd_rng ho i hi
    rw [List.getD_eq_getElem?_getD, List.getElem?_eq_getElem (by omega)]
    have := List.all_eq_true.1 hl.2.2 _ (List.getElem_mem (l := n.progs) (n := i.toNat) (by omega))
    have := (okP_parts this).1
    show (n.progs[i.toNat]).code.length ≤ 24
    omega
  have ht : ∀ l ∈ (permN n xs).links, l.tok.length ≤ 400 := by
    intro l hl
    obtain ⟨l0, h0, rfl⟩ := List.mem_map.1 (show l ∈ n.links.map _ from hl)
    show l0.tok.length ≤ 400
    exact isS_len (tok_isS h h0)
  have l1 : (permN n xs).progs.length = xs.length := by show (xs.map _).length = _; simp
  have l2 : (permN n xs).links.length = n.links.length := by show (n.links.map _).length = _; simp
  refine ⟨⟨by omega, fun p q => by have := hp p q; omega, by omega, fun l q => by have := ht l q; omega⟩, ?_⟩
  have h1 := sum_leN (f := fun p : Prg => p.code.length) (c := 24) (permN n xs).progs hp
  have h2 := sum_leN (f := fun l : Lnk => l.tok.length) (c := 400) (permN n xs).links ht
  unfold szN
  omega
theorem perm_bd (n : Net) (xs : List Int) : szN (permuteNetworkR0 n xs) ≤ 50000 := by
  cases h : permB n xs with
  | false => rw [perm_no h]; simp [szN]
  | true =>
    rw [perm_yes h]
    unfold permB at h
    rw [Bool.and_eq_true] at h
    exact (perm_small h.1 h.2).2
theorem wf_perm {n : Net} {xs : List Int} (hw : ∀ l ∈ n.links, wfL l) (hl : xs.length ≤ 1000) : ∀ l ∈ (permN n xs).links, wfL l := by
  intro l h
  obtain ⟨l0, h0, rfl⟩ := List.mem_map.1 (show l ∈ n.links.map _ from h)
  have q := hw l0 h0
  have e1 := ixI_wf (xs := xs) (x := l0.frm) (by omega)
  have e2 := ixI_wf (xs := xs) (x := l0.to) (by omega)
  unfold wfL wfE Lnk.src Lnk.tgt wfI at q ⊢
  unfold renL
  simp only [] at q ⊢
  refine ⟨⟨?_, q.1.2⟩, ⟨?_, q.2.2⟩⟩
  · split
    · exact q.1.1
    · omega
  · split
    · exact q.2.1
    · omega
/-- A row of programs of the call's own, whose slots hold any slices. -/
theorem SlP.ofRow {lo m : Nat} {w : World} {v : Value} {us : List Value} {xs : List Prg} (h : w.ownsRow lo 79 3 v m (cellsP xs us)) (h1 : xs.length = m) (h2 : us.length = m) (hs : ∀ (i : Nat) (u : Value) (p : Prg), us[i]? = some u → xs[i]? = some p → SlI w u p.code) : SlP w v xs := by
  have hv := VP.ofRow h h1 h2
  have hl := hv.len
  rcases hv with ⟨rfl, rfl, rfl⟩ | ⟨B, cap, cur, rfl, a2, a3, a4, a5, a6, a7, a8⟩
  · exact ⟨none, 0, rfl, Nat.le_refl _, by simp, fun _ => rfl, .inl rfl⟩
  · refine ⟨_, cap, by rw [hl], by omega, a5, (fun e => by cases e), .inr ⟨B, 0, rfl, lt_of a6, fun i x hx => ?_⟩⟩
    have hi := (List.getElem?_eq_some_iff.1 hx).1
    obtain ⟨u, hu⟩ : ∃ u, us[i]? = some u := ⟨_, List.getElem?_eq_getElem (by omega)⟩
    have z := a8 i u x hu hx
    simp only [Nat.zero_add]
    exact ⟨u, (cell_of a6 _).trans z.1, (cell_of a6 _).trans z.2.1, (cell_of a6 _).trans z.2.2, hs i u x hu hx⟩
theorem SlL.ofVL {lo hi : Nat} {w : World} {v : Value} {us : List Value} {xs : List Lnk} (hv : VL lo hi w v us xs) (hs : ∀ (i : Nat) (u : Value) (p : Lnk), us[i]? = some u → xs[i]? = some p → Sl w u p.tok) (hw : ∀ l ∈ xs, wfL l) : SlL w v xs := by
  have hl := hv.len
  rcases hv with ⟨rfl, rfl, rfl⟩ | ⟨B, cap, cur, rfl, a2, a3, a4, a5, a6, a7, a8⟩
  · exact ⟨none, 0, rfl, Nat.le_refl _, by simp, fun _ => rfl, .inl rfl⟩
  · refine ⟨_, cap, by rw [hl], by omega, a5, (fun e => by cases e), .inr ⟨B, 0, rfl, lt_of a6, fun i x hx => ?_⟩⟩
    have hi := (List.getElem?_eq_some_iff.1 hx).1
    obtain ⟨u, hu⟩ : ∃ u, us[i]? = some u := ⟨_, List.getElem?_eq_getElem (by omega)⟩
    have z := a8 i u x hu hx
    simp only [Nat.zero_add]
    exact ⟨u, (cell_of a6 _).trans z.1, (cell_of a6 _).trans z.2.1, (cell_of a6 _).trans z.2.2.1, (cell_of a6 _).trans z.2.2.2.1, (cell_of a6 _).trans z.2.2.2.2, hw x (List.mem_of_getElem? hx), hs i u x hu hx⟩
/-- Programs, as many as have been laid so far, that lay what they hold in the world w0. -/
def GrowV (lo : Nat) (w0 : World) (k : Nat) (w : World) (o : Value) (xs : List Prg) : Prop := ∃ us, us.length = k ∧ (xs.take k).length = k ∧ w.ownsRow lo 79 3 o k (cellsP (xs.take k) us) ∧ ∀ (i : Nat) (u : Value) (p : Prg), us[i]? = some u → (xs.take k)[i]? = some p → SlI w0 u p.code
theorem GrowV.nil (lo : Nat) (w0 w : World) (xs : List Prg) : GrowV lo w0 0 w (.slice none 0 0) xs := ⟨[], rfl, rfl, World.ownsRow_nil _ _ _ _, fun i u p h => by simp at h⟩
theorem GrowV.step {lo k : Nat} {w0 w4 : World} {o' x : Value} {xs : List Prg} {a : Prg} {us : List Value} (l1 : us.length = k) (hs : ∀ (i : Nat) (u : Value) (p : Prg), us[i]? = some u → (xs.take k)[i]? = some p → SlI w0 u p.code) (hrow : xs[k]? = some a) (hx : SlI w0 x a.code)
    (hown : w4.ownsRow lo 79 3 o' (k + 1) (cellsP (xs.take k) us ++ [.int .i64 a.ins, .int .i64 a.outs, x])) : GrowV lo w0 (k + 1) w4 o' xs := by
  have hq := (List.getElem?_eq_some_iff.1 hrow)
  have e : xs.take (k + 1) = xs.take k ++ [a] := by rw [List.take_succ_eq_append_getElem hq.1, hq.2]
  have lk : (xs.take k).length = k := by have := hq.1; simp; omega
  refine ⟨us ++ [x], by simp [l1], by rw [e]; simp [lk], ?_, fun i u p hu hp => ?_⟩
  · rw [e, cellsP_snoc _ _ _ _ (by rw [lk, l1])]; exact hown
  · rw [e] at hp
    by_cases hi : i < k
    · rw [List.getElem?_append_left (by omega)] at hu hp
      exact hs i u p hu hp
    · rw [List.getElem?_append_right (by omega)] at hu hp
      have h0 : i - k = 0 := by
        have := (List.getElem?_eq_some_iff.1 hu).1
        simp at this
        omega
      rw [l1, h0] at hu
      rw [lk, h0] at hp
      simp at hu hp
      subst hu
      subst hp
      exact hx
theorem cellsO {w : World} {g T : Nat} {v : Value} (h : w.heap[g]? = some (.cells #[v] T)) : w.cell? ⟨g, 0, none⟩ = some v := by rw [cell_of h 0]; rfl
theorem Sl.setNot {w : World} {p : Addr} {u x : Value} {tok : List Int} (h : Sl w u tok) (hp : ∀ n, w.cell? p ≠ some (.int .i64 n)) : Sl (w.setCell p x) u tok := by
  obtain ⟨a, cap, hv, h1, h2, h3, hr⟩ := h
  refine ⟨a, cap, hv, h1, h2, h3, ?_⟩
  rcases hr with h0 | ⟨b, off, ha, hb, hc⟩
  · exact .inl h0
  · refine .inr ⟨b, off, ha, by rw [World.size_setCell]; exact hb, fun k hk => ?_⟩
    rw [World.cell?_setCell_other _ _ _ _ (fun e => hp (tok.getD k 0) (by rw [← hc k hk]; congr 1))]
    exact hc k hk
theorem grow_drewA {w w' : World} {A : Obj} {row : Option Nat} (h : ((World.drew w).alloc A).grownBy w' row) : (w.alloc A).grownBy w' row := ⟨h.os, h.tape, h.output, h.size, h.block⟩

end Go.Proofs.Ytkeoefbkeommhaa
