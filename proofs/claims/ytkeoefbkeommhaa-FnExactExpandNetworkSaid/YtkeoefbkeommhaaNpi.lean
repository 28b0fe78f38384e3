/-
  The model's l3Inverse. No statement of the seat is proved here.
  PermuteNetwork of the model. No statement of the seat is proved here.
-/
import Derived.Test.YtkeoefbkeommhaaNetPM
import Derived.Deep.CutRange
namespace Go.Proofs.Ytkeoefbkeommhaa
open Go.RowKit

theorem infoB2 : (Try.prog.info? 4).map (fun i => (i.zero, i.size, i.bytes)) = some (some (.bool false), 1, 1) := by kernel_rfl
theorem infoB2_parts : ∃ i0, Try.prog.info? 4 = some i0 ∧ i0.zero = some (.bool false) ∧ i0.size = 1 ∧ i0.bytes = 1 := by
  have h := infoB2
  cases e : Try.prog.info? 4 with
  | none => rw [e] at h; cases h
  | some i =>
    rw [e] at h
    simp only [Option.map_some, Option.some.injEq, Prod.mk.injEq] at h
    exact ⟨i, rfl, h.1, h.2.1, h.2.2⟩
def oL (m : Nat) (xs : List Int) (k : Nat) : List Int := (List.range m).map fun (i : Nat) => if (i : Int) ∈ xs.take k then ixI xs (i : Int) else 0
def mL (m : Nat) (xs : List Int) (k : Nat) : List Bool := (List.range m).map fun (i : Nat) => decide ((i : Int) ∈ xs.take k)
theorem oL_len (m : Nat) (xs : List Int) (k : Nat) : (oL m xs k).length = m := by unfold oL; simp
theorem mL_len (m : Nat) (xs : List Int) (k : Nat) : (mL m xs k).length = m := by unfold mL; simp
theorem oL_zero (m : Nat) (xs : List Int) : vals (oL m xs 0) = List.replicate m (.int .i64 0) := by
  apply List.ext_getElem?
  intro i
  unfold oL vals
  rw [List.getElem?_map, List.getElem?_map, List.getElem?_replicate]
  by_cases h : i < m
  · rw [List.getElem?_range h, if_pos h]; simp
  · rw [List.getElem?_eq_none (by simpa using h), if_neg h]; rfl
theorem mL_zero (m : Nat) (xs : List Int) : (mL m xs 0).map Value.bool = List.replicate m (.bool false) := by
  apply List.ext_getElem?
  intro i
  unfold mL
  rw [List.getElem?_map, List.getElem?_map, List.getElem?_replicate]
  by_cases h : i < m
  · rw [List.getElem?_range h, if_pos h]; simp
  · rw [List.getElem?_eq_none (by simpa using h), if_neg h]; rfl
theorem take_mem {xs : List Int} {k : Nat} {y x : Int} (hy : xs[k]? = some y) : x ∈ xs.take (k + 1) ↔ x ∈ xs.take k ∨ x = y := by
  have hk := (List.getElem?_eq_some_iff.1 hy).1
  rw [List.take_succ_eq_append_getElem hk, (List.getElem?_eq_some_iff.1 hy).2]
  simp
theorem oL_step {m k yy : Nat} {xs : List Int} (hy : xs[k]? = some ((yy : Nat) : Int)) (hn : ((yy : Nat) : Int) ∉ xs.take k) : (oL m xs k).set yy (k : Int) = oL m xs (k + 1) := by
  apply List.ext_getElem?
  intro i
  rw [List.getElem?_set]
  unfold oL
  rw [List.getElem?_map, List.getElem?_map]
  by_cases h : i < m
  · rw [List.getElem?_range h]
    by_cases e : yy = i
    · subst e
      rw [if_pos rfl, if_pos (by simpa using h)]
      simp only [Option.map_some, Option.some.injEq]
      rw [if_pos ((take_mem hy).2 (.inr rfl)), ixI_hit hy hn]
    · rw [if_neg e]
      simp only [Option.map_some, Option.some.injEq]
      have : ((i : Int) ∈ xs.take (k + 1)) ↔ (i : Int) ∈ xs.take k := by
        rw [take_mem hy]
        exact ⟨fun q => q.elim id (fun q => absurd (by omega) e), .inl⟩
      simp only [this]
  · rw [List.getElem?_eq_none (by simpa using h)]
    by_cases e : yy = i
    · subst e; rw [if_pos rfl, if_neg (by simpa using h)]; rfl
    · rw [if_neg e]; rfl
theorem mL_step {m k yy : Nat} {xs : List Int} (hy : xs[k]? = some ((yy : Nat) : Int)) : (mL m xs k).set yy true = mL m xs (k + 1) := by
  apply List.ext_getElem?
  intro i
  rw [List.getElem?_set]
  unfold mL
  rw [List.getElem?_map, List.getElem?_map]
  by_cases h : i < m
  · rw [List.getElem?_range h]
    by_cases e : yy = i
    · subst e
      rw [if_pos rfl, if_pos (by simpa using h)]
      simp only [Option.map_some, Option.some.injEq]
      exact (decide_eq_true ((take_mem hy).2 (.inr rfl))).symm
    · rw [if_neg e]
      simp only [Option.map_some, Option.some.injEq]
      have : ((i : Int) ∈ xs.take (k + 1)) ↔ (i : Int) ∈ xs.take k := by
        rw [take_mem hy]
        exact ⟨fun q => q.elim id (fun q => absurd (by omega) e), .inl⟩
      simp only [this]
  · rw [List.getElem?_eq_none (by simpa using h)]
    by_cases e : yy = i
    · subst e; rw [if_pos rfl, if_neg (by simpa using h)]; rfl
    · rw [if_neg e]; rfl
theorem oL_at {m k yy : Nat} {xs : List Int} (h : yy < m) (hm : ((yy : Nat) : Int) ∈ xs.take k) : (oL m xs k)[yy]? = some (ixI xs (yy : Int)) := by
  unfold oL
  rw [List.getElem?_map, List.getElem?_range h]
  simp only [Option.map_some]
  rw [if_pos hm]
theorem take_nodup {xs : List Int} {k : Nat} {y : Int} (hy : xs[k]? = some y) (hn : y ∉ xs.take k) (h : (xs.take k).Nodup) : (xs.take (k + 1)).Nodup := by
  have hk := (List.getElem?_eq_some_iff.1 hy).1
  rw [List.take_succ_eq_append_getElem hk, (List.getElem?_eq_some_iff.1 hy).2, List.nodup_append]
  refine ⟨h, by simp, fun a ha b hb => ?_⟩
  rw [List.mem_singleton] at hb
  subst hb
  exact fun e => hn (e ▸ ha)

def pK (ps pp : List Prg) (k : Nat) : List Prg := pp.take k ++ ps.drop k
theorem pK_at {ps pp : List Prg} {k : Nat} (hl : k ≤ pp.length) : (pK ps pp k)[k]? = ps[k]? := by
  unfold pK
  rw [List.getElem?_append_right (by rw [List.length_take]; omega), List.length_take, Nat.min_eq_left hl, Nat.sub_self, List.getElem?_drop, Nat.add_zero]
theorem pK_set {ps pp : List Prg} {k : Nat} {a : Prg} (ha : pp[k]? = some a) (hk : k < ps.length) : (pK ps pp k).set k a = pK ps pp (k + 1) := by
  have hp := (List.getElem?_eq_some_iff.1 ha).1
  unfold pK
  rw [List.set_append_right _ _ (by rw [List.length_take]; omega), List.take_succ_eq_append_getElem hp, (List.getElem?_eq_some_iff.1 ha).2, List.append_assoc]
  congr 1
  rw [List.length_take, Nat.min_eq_left (Nat.le_of_lt hp), Nat.sub_self, List.drop_eq_getElem_cons hk]
  rfl
def PermK (lo hi k : Nat) (w : World) (v : Value) (ps pp : List Prg) : Prop := ∃ us rest, us.length = k ∧ VP lo hi w v (us ++ rest) (pK ps pp k) ∧ FamI lo w us ((pp.take k).map Prg.code)
theorem PermK.step {lo hi k b m PB c : Nat} {w : World} {x a : Prg} {ps pp : List Prg} {us rest : List Value} {u : Value} (hk : us.length = k) (hv : VP lo hi w (.slice (some ⟨PB, 0, none⟩) m c) (us ++ rest) (pK ps pp k)) (hF : FamI lo w us ((pp.take k).map Prg.code)) (hx : (pK ps pp k)[k]? = some x) (hxl : k < ps.length) (ha : pp[k]? = some a)
    (ho : OwnI b w u a.code) (hlo : lo ≤ b) (hb : ∀ y ∈ us, ∀ q, y.ownBlock = some q → q < b) (ht : Typed w PB 79) : PermK lo hi (k + 1) (((w.setCell ⟨PB, k * 3, none⟩ (.int .i64 a.ins)).setCell ⟨PB, k * 3 + 1, none⟩ (.int .i64 a.outs)).setCell ⟨PB, k * 3 + 2, none⟩ u) (.slice (some ⟨PB, 0, none⟩) m c) ps pp := by
  have hkl := (List.getElem?_eq_some_iff.1 hx).1
  have hal := (List.getElem?_eq_some_iff.1 ha).1
  have hl := hv.len
  have e : pp.take (k + 1) = pp.take k ++ [a] := by rw [List.take_succ_eq_append_getElem hal, (List.getElem?_eq_some_iff.1 ha).2]
  have v1 := hv.set0 hx a.ins
  have v2 := v1.set1 (List.getElem?_set_self hkl) a.outs
  rw [List.set_set] at v2
  have v3 := v2.set2 (List.getElem?_set_self hkl) u
  have v4 := VP.row (y := a) v3 (List.getElem?_set_self hkl) ⟨rfl, rfl⟩
  rw [app_set hk (by omega), pK_set ha hxl] at v4
  refine ⟨us ++ [u], rest.drop 1, by simp [hk], v4, ?_⟩
  rw [e, List.map_append]
  refine hF.snoc (fun y ys q => row_setTP (row_setTP (row_setTP q ht (by decide) _) (ht.setCell _ _) (by decide) _) ((ht.setCell _ _).setCell _ _) (by decide) _) (row_setTP (row_setTP (row_setTP (row_mono ho hlo) ht (by decide) _) (ht.setCell _ _) (by decide) _) ((ht.setCell _ _).setCell _ _) (by decide) _) (fun y ys q hy => ?_)
  cases q1 : y.ownBlock with
  | none => exact .inl q1
  | some d =>
    right
    rw [q1]
    intro q2
    have := hb y hy d q1
    have := (World.ownsRow.lt ho d q2.symm).1
    omega
theorem PermK.done {lo hi k : Nat} {w : World} {v : Value} {ps pp : List Prg} (h : PermK lo hi k w v ps pp) (hk : ps.length = k) (hp : pp.length = k) (hh : hi ≤ w.heap.size) : PrgsR lo w.heap.size w v pp := by
  obtain ⟨us, rest, hu, hv, hF⟩ := h
  have hl := hv.len
  have e : pK ps pp k = pp := by unfold pK; rw [List.take_of_length_le (by omega), List.drop_of_length_le (by omega), List.append_nil]
  rw [e] at hv hl
  rw [List.length_append] at hl
  obtain rfl : rest = [] := List.eq_nil_of_length_eq_zero (by omega)
  rw [List.append_nil] at hv
  rw [List.take_of_length_le (by omega)] at hF
  exact ⟨us, hv.mono (Nat.le_refl _) hh, hF, fam_hiI hF⟩
theorem frm_of {n : Net} (h : okN n = true) {l : Lnk} (hl : l ∈ n.links) : (l.src = outE ∧ l.frm = -1 ∨ l.src ≠ outE ∧ 0 ≤ l.frm ∧ l.frm < (n.progs.length : Int)) ∧ (l.tgt = outE ∧ l.to = -1 ∨ l.tgt ≠ outE ∧ 0 ≤ l.to ∧ l.to < (n.progs.length : Int)) := by
  obtain ⟨_, h2, _, _⟩ := (okN_iff n).1 h
  have hs := (h2 l hl).2.1
  have ht := (h2 l hl).2.2
  have e1 : l.tgt.1 = l.to := rfl
  have e2 : l.src.1 = l.frm := rfl
  constructor
  · by_cases e : l.src = outE
    · exact .inl ⟨e, by rw [← e2, e]; rfl⟩
    · rcases hs with q | q
      · exact absurd q e
      · obtain ⟨i, x, h1, h3, _⟩ := mem_ports.1 q
        have := (List.getElem?_eq_some_iff.1 h1).1
        exact .inr ⟨e, by omega, by omega⟩
  · by_cases e : l.tgt = outE
    · exact .inl ⟨e, by rw [← e1, e]; rfl⟩
    · rcases ht with q | q
      · exact absurd q e
      · obtain ⟨i, x, h1, h3, _⟩ := mem_ports.1 q
        have := (List.getElem?_eq_some_iff.1 h1).1
        exact .inr ⟨e, by omega, by omega⟩
theorem sperm_szN {n : Net} (h : szN n ≤ 1048576) : n.progs.length ≤ 1048576 := by unfold szN at h; omega
theorem pos_of {n : Net} (h : okN n = true) {l : Lnk} (hl : l ∈ n.links) : 0 < n.progs.length := by
  obtain ⟨hs, ht⟩ := frm_of h hl
  rcases hs with ⟨a, _⟩ | ⟨_, _, _⟩
  · rcases ht with ⟨b, _⟩ | ⟨_, _, _⟩
    · exfalso
      have q := ((okN_iff n).1 h).2.1 l hl |>.1
      unfold linkL at q
      rw [Bool.and_eq_true] at q
      exact absurd q.2 (by simp [a, b])
    · omega
  · omega
theorem Own.at2 {lo n c : Nat} {w : World} {a : Option Addr} {xs : List Int} (h : Own lo w (.slice a n c) xs) (hx : 0 < xs.length) : ∃ b, a = some ⟨b, 0, none⟩ ∧ b < w.heap.size := by
  rcases h.2 with ⟨_, e⟩ | ⟨g, cap, cur, e, _, hg, _⟩
  · omega
  · simp only [Value.slice.injEq] at e
    exact ⟨g, e.1, lt_of hg⟩
theorem Own.cell3 {lo b n c j : Nat} {w : World} {xs : List Int} {y : Int} (h : Own lo w (.slice (some ⟨b, 0, none⟩) n c) xs) (hy : xs[j]? = some y) : w.cell? ⟨b, j, none⟩ = some (.int .i64 y) := by
  have hj := (List.getElem?_eq_some_iff.1 hy).1
  have e : n = xs.length := by
    rcases h.2 with ⟨e, _⟩ | ⟨g, cap, cur, e, _⟩
    · cases e
    · simp only [Value.slice.injEq] at e
      exact e.2.1
  subst e
  have q := World.ownsRow.cellAt h j (by omega)
  rw [q]
  unfold vals
  rw [List.getElem?_map, hy]
  rfl

end Go.Proofs.Ytkeoefbkeommhaa
